/- A list of changes drawn. -/
import Derived.Test.YtdflpkkcjbdpfaaDoorW3
namespace Go.Proofs.YtdflpkkcjbdpfaaDoor
open Go.RowKit
set_option linter.unusedSimpArgs false
set_option linter.unusedVariables false

theorem pal_mem {α : Type} {xs : List α} {x : α} (h : x ∈ pal xs) : x ∈ xs := by
  unfold pal at h
  rcases List.mem_append.1 h with h | h
  · exact h
  · exact (List.dropLast_sublist xs).subset (List.mem_reverse.1 h)
/-- a new list of short texts is returned -/
def SomeList (K : Nat) (b : Nat) (a : Option Addr) (len cap m : Nat) (w : World) (e : Ending) (w' : World) : Prop :=
  ∃ (v : Value) (L : List (List Nat)), e = .returned v ∧ New w.heap.size w' 9 v (strs L) ∧ L.length ≤ K ∧ (∀ l ∈ L, l.length ≤ 10) ∧ Dr b a len cap m w w'

set_option maxRecDepth 100000 in
set_option maxHeartbeats 4000000 in
theorem changes_draw (b : Nat) (a : Option Addr) (len cap m n : Nat) (hm : m ≤ 600000) (h3 : 3 ≤ n) (h8 : n ≤ 8) (w : World) (hc : Cur w b a len cap m) :
    Calls Tryd.prog 48 #[.pointer (some ⟨b, 0, none⟩), .int .i64 n] w (SomeList 20 b a len cap (m + 200) w) := by
  have HC := Lib.hid hc
  have hlt := hc.lt
  clear hc
  obtain ⟨i0, hi0, hz0, hz1, hz2⟩ := info_parts infoText
  have I0 := Lib.hid (⟨hi0, hz0, hz1, hz2⟩ : _ ∧ _ ∧ _ ∧ _)
  clear hi0 hz0 hz1 hz2
  go_enter Tryd.func48, Tryd.ntmps48
  go_wp2_with fail
  refine (one_any b a len cap m 2 (by omega) (by omega) (by omega) _ HC.out).mono ?_
  rintro e w1 ⟨t, rfl, hc1, ho1⟩
  have HD1 := Lib.hid ((Dr.start HC.out).call hc1 ho1)
  clear hc1 ho1
  cases t
  · have HD3 := HD1
    clear HD1
    go_wp2_with fail
    refine (pick_any b a len cap _ 6 (by omega) (by omega) (by omega) _ HD3.out.cur).mono ?_
    rintro e w5 ⟨x8, hx8, rfl, hc5, ho5⟩
    have HD5 := Lib.hid (HD3.out.call hc5 ho5)
    clear hc5 ho5 HD3
    go_wp2_with fail
    go_loopg [6, 7] (1 + x8) (fun q hv i wr => ∃ (H : List (List Nat)) (mm : Nat), i = .int .i64 q ∧ New w.heap.size wr 9 hv (strs H) ∧ (∀ l ∈ H, l.length ≤ 10) ∧ Dr b a len cap mm w wr ∧ H.length + q = 1 + x8 ∧ mm + 2 * q ≤ m + 130)
    case atStart => exact ⟨[], _, by go_num, New.nil _ _ _, by simp, HD5.out, by simp, by omega⟩
    case round =>
      obtain ⟨H, mm, rfl, hhv, hsm, hdr, hL8, hmm⟩ := hrel
      have HD9 := Lib.hid hdr
      have HH9 := Lib.hid hhv
      have HS9 := Lib.hid hsm
      clear hdr hhv hsm HD5
      by_cases hg : 0 < gk
      · obtain ⟨g', hg'⟩ : ∃ g', gk = g' + 1 := ⟨gk - 1, by omega⟩
        subst hg'
        go_wp2_with fail
        refine (change_draw b a len cap mm n (by omega) (by omega) (by omega) _ HD9.out.cur).mono ?_
        rintro e5 w6 ⟨l5, hl5, rfl, hc5, ho5⟩
        have HD6 := Lib.hid (HD9.out.call hc5 ho5)
        have HH6 := Lib.hid (HH9.out.only ho5 hlt)
        have HL5 := Lib.hid (small_app HS9.out (txt_len (by omega) (by omega) hl5))
        clear hc5 ho5 hl5 HD9 HH9 HS9
        go_wp2_with (at_builtin; refine wpList_app1 rfl (.tmp 25) (.tmp 29) 24 rfl 9 i0 (.string ⟨#[]⟩) 16 Tryd.underlying24 I0.out.1 I0.out.2.1 I0.out.2.2.1 I0.out.2.2.2 rfl w.heap.size w6 _ (strs H) rfl HH6.out rfl rfl HD6.out.only.size (Below.refl _ _) (by rw [strs_len]; omega) (by omega) ?_)
        intro v7 w7 hn7 hk7 hb7 _
        have HD7 := Lib.hid (HD6.out.below HC.out hb7)
        have e7 : strs H ++ [.string (txt l5)] = strs (H ++ [l5]) := by simp [strs]
        rw [e7] at hn7
        have HH7 := Lib.hid hn7
        clear hn7 hk7 hb7 e7 HD6 HH6
        go_wp2
        go_roundg g'
        case measure => omega
        case rel => exact ⟨H ++ [l5], mm + 2, by go_num, HH7.out, HL5.out, HD7.out, by simp; omega, by omega⟩
      · obtain rfl : gk = 0 := by omega
        clear hg
        go_wp2_with fail
        refine (one_any b a len cap mm 2 (by omega) (by omega) (by omega) _ HD9.out.cur).mono ?_
        rintro e w6 ⟨t2, rfl, hc6, ho6⟩
        have HD6 := Lib.hid (HD9.out.call hc6 ho6)
        have HH6 := Lib.hid (HH9.out.only ho6 hlt)
        clear hc6 ho6 HD9 HH9
        cases t2
        · go_wp2
          go_ret
          exact ⟨_, H, rfl, HH6.out, by omega, HS9.out, HD6.out.more (by omega)⟩
        · go_wp2_with fail
          refine (l3Mirror_any _ H w6 HH6.out.own.txts (by omega)).mono ?_
          rintro e7 w7 ⟨v7, rfl, hn7, hb7⟩
          have HD7 := Lib.hid (HD6.out.below HC.out (hb7.mono HD6.out.only.size))
          have HV7 := Lib.hid (hn7.lower HD6.out.only.size)
          clear hn7 hb7 HD6 HH6
          go_wp2_with fail
          refine (change_draw b a len cap _ n (by omega) (by omega) (by omega) _ HD7.out.cur).mono ?_
          rintro e8 w8 ⟨l8, hl8, rfl, hc8, ho8⟩
          have HD8 := Lib.hid (HD7.out.call hc8 ho8)
          have HV8 := Lib.hid (HV7.out.only ho8 hlt)
          have HL8 := Lib.hid (txt_len (by omega) (by omega) hl8)
          clear hc8 ho8 hl8 HD7 HV7
          go_wp2_with fail
          refine (l3Mirror_any _ [l8] _ (show Own (w8.alloc (.cells #[.string (txt l8)] 9)) 9 (.slice (some ⟨w8.heap.size, 0, none⟩) 1 1) (strs [l8]) from Own.lit w8 9 [.string (txt l8)] (by simp)).txts (by simp)).mono ?_
          rintro e9 w9 ⟨v9, rfl, hn9, hb9⟩
          have hal := (Below.refl w8.heap.size w8).alloc (Nat.le_refl _) (.cells #[.string (txt l8)] 9)
          have hb8 := hal.trans (hb9.mono hal.size)
          have HD9 := Lib.hid (HD8.out.below HC.out (hb8.mono HD8.out.only.size))
          have HV9 := Lib.hid (HV8.out.kept hb8)
          have hlen9 : (pal [l8]).length = 1 := rfl
          obtain ⟨a9, c9, hv9, ha9⟩ := hn9.own.view
          rw [strs_len, hlen9] at hv9 ha9
          obtain ⟨g9, hg9⟩ := ha9 (by omega)
          subst hg9
          subst hv9
          have hcl : ∀ t y, (strs (pal [l8]))[t]? = some y → w9.cell? ((⟨g9, 0, none⟩ : Addr).add t) = some y := fun t y hy => by
            rw [add_at, Nat.zero_add]
            exact hn9.own.cell t y hy
          have HCL := Lib.hid hcl
          have hpl : (pal H).length ≤ 11 := by rw [pal_len]; omega
          clear hn9 hb9 hal hb8 ha9 hcl HD8 HV8
          go_wp2_with (at_builtin; refine wpList_appN rfl (.tmp 34) (.tmp 39) 24 rfl 9 i0 (.string ⟨#[]⟩) 16 Tryd.underlying24 I0.out.1 I0.out.2.1 I0.out.2.2.1 I0.out.2.2.2 rfl w.heap.size w9 _ (strs (pal H)) rfl HV9.out ⟨g9, 0, none⟩ 1 c9 (strs (pal [l8])) rfl rfl HCL.out (strs_one _) HD9.out.only.size (Below.refl _ _) (by rw [strs_len]; omega) (by omega) ?_)
          intro va wa hna _ hba _ _
          have e4 : strs (pal H) ++ strs (pal [l8]) = strs (pal H ++ pal [l8]) := by simp [strs]
          rw [e4] at hna
          have HNA := Lib.hid hna
          have HDA := Lib.hid (HD9.out.below HC.out hba)
          have HSA := Lib.hid (show ∀ l ∈ pal H ++ pal [l8], l.length ≤ 10 from fun l hl => by
            rcases List.mem_append.1 hl with h9 | h9
            · exact HS9.out l (pal_mem h9)
            · simp [pal] at h9; rw [h9]; exact HL8.out)
          clear hna hba e4 HD9 HV9 HCL
          go_wp2
          go_ret
          exact ⟨_, pal H ++ pal [l8], rfl, HNA.out, by rw [List.length_append, hlen9]; omega, HSA.out, HDA.out.more (by omega)⟩
  · go_wp2_with fail
    refine (method_draw b a len cap (m + 2) (by omega) _ HD1.out.cur).mono ?_
    rintro e w2 ⟨s, n1, v, L, rfl, hsz, hn3, hn6, hn, hL, hs, hd⟩
    have HD2 := Lib.hid (HD1.out.call hd.cur hd.only)
    have hlt2 := HD1.out.only.size
    have HN2 := Lib.hid (hn.lower hlt2)
    obtain ⟨av, cv, hv, -⟩ := hn.own.view
    subst hv
    have HS2 := Lib.hid hs
    clear hn hd hs HD1
    have HD3 := Lib.hid (HD2.out.below HC.out ((Below.refl w.heap.size w2).alloc HD2.out.only.size (.cells #[.string s, .int .i64 n1, .slice av (strs L).length cv] 95)))
    have HN3 := Lib.hid (HN2.out.kept ((Below.refl _ _).alloc (Nat.le_refl _) (.cells #[.string s, .int .i64 n1, .slice av (strs L).length cv] 95)))
    clear HD2 HN2
    have hr := RowAt.new w2 95 #[.string s, .int .i64 n1, .slice av (strs L).length cv]
    have c1 := hr.cell 1 rfl
    have c2 := hr.cell 2 rfl
    clear hr
    by_cases he : n1 = (n : Int)
    · subst he
      go_wp2
      go_ret
      exact ⟨_, L, rfl, HN3.out, hL, HS2.out, HD3.out.more (by omega)⟩
    · have hb1 : (n1 == (n : Int)) = false := by rw [beq_eq_false_iff_ne]; exact he
      go_wp2_with fail
      generalize hwz : (w2.alloc (.cells #[.string s, .int .i64 n1, .slice av (strs L).length cv] 95)) = wz at *
      clear hwz
      refine (pick_any b a len cap _ 6 (by omega) (by omega) (by omega) _ HD3.out.cur).mono ?_
      rintro e w5 ⟨x8, hx8, rfl, hc5, ho5⟩
      have HD5 := Lib.hid (HD3.out.call hc5 ho5)
      clear hc5 ho5 HD3
      go_wp2_with fail
      go_loopg [6, 7] (1 + x8) (fun q hv i wr => ∃ (H : List (List Nat)) (mm : Nat), i = .int .i64 q ∧ New w.heap.size wr 9 hv (strs H) ∧ (∀ l ∈ H, l.length ≤ 10) ∧ Dr b a len cap mm w wr ∧ H.length + q = 1 + x8 ∧ mm + 2 * q ≤ m + 130)
      case atStart => exact ⟨[], _, by go_num, New.nil _ _ _, by simp, HD5.out, by simp, by omega⟩
      case round =>
        obtain ⟨H, mm, rfl, hhv, hsm, hdr, hL8, hmm⟩ := hrel
        have HD9 := Lib.hid hdr
        have HH9 := Lib.hid hhv
        have HS9 := Lib.hid hsm
        clear hdr hhv hsm HD5
        by_cases hg : 0 < gk
        · obtain ⟨g', hg'⟩ : ∃ g', gk = g' + 1 := ⟨gk - 1, by omega⟩
          subst hg'
          go_wp2_with fail
          refine (change_draw b a len cap mm n (by omega) (by omega) (by omega) _ HD9.out.cur).mono ?_
          rintro e5 w6 ⟨l5, hl5, rfl, hc5, ho5⟩
          have HD6 := Lib.hid (HD9.out.call hc5 ho5)
          have HH6 := Lib.hid (HH9.out.only ho5 hlt)
          have HL5 := Lib.hid (small_app HS9.out (txt_len (by omega) (by omega) hl5))
          clear hc5 ho5 hl5 HD9 HH9 HS9
          go_wp2_with (at_builtin; refine wpList_app1 rfl (.tmp 25) (.tmp 29) 24 rfl 9 i0 (.string ⟨#[]⟩) 16 Tryd.underlying24 I0.out.1 I0.out.2.1 I0.out.2.2.1 I0.out.2.2.2 rfl w.heap.size w6 _ (strs H) rfl HH6.out rfl rfl HD6.out.only.size (Below.refl _ _) (by rw [strs_len]; omega) (by omega) ?_)
          intro v7 w7 hn7 hk7 hb7 _
          have HD7 := Lib.hid (HD6.out.below HC.out hb7)
          have e7 : strs H ++ [.string (txt l5)] = strs (H ++ [l5]) := by simp [strs]
          rw [e7] at hn7
          have HH7 := Lib.hid hn7
          clear hn7 hk7 hb7 e7 HD6 HH6
          go_wp2
          go_roundg g'
          case measure => omega
          case rel => exact ⟨H ++ [l5], mm + 2, by go_num, HH7.out, HL5.out, HD7.out, by simp; omega, by omega⟩
        · obtain rfl : gk = 0 := by omega
          clear hg
          go_wp2_with fail
          refine (one_any b a len cap mm 2 (by omega) (by omega) (by omega) _ HD9.out.cur).mono ?_
          rintro e w6 ⟨t2, rfl, hc6, ho6⟩
          have HD6 := Lib.hid (HD9.out.call hc6 ho6)
          have HH6 := Lib.hid (HH9.out.only ho6 hlt)
          clear hc6 ho6 HD9 HH9
          cases t2
          · go_wp2
            go_ret
            exact ⟨_, H, rfl, HH6.out, by omega, HS9.out, HD6.out.more (by omega)⟩
          · go_wp2_with fail
            refine (l3Mirror_any _ H w6 HH6.out.own.txts (by omega)).mono ?_
            rintro e7 w7 ⟨v7, rfl, hn7, hb7⟩
            have HD7 := Lib.hid (HD6.out.below HC.out (hb7.mono HD6.out.only.size))
            have HV7 := Lib.hid (hn7.lower HD6.out.only.size)
            clear hn7 hb7 HD6 HH6
            go_wp2_with fail
            refine (change_draw b a len cap _ n (by omega) (by omega) (by omega) _ HD7.out.cur).mono ?_
            rintro e8 w8 ⟨l8, hl8, rfl, hc8, ho8⟩
            have HD8 := Lib.hid (HD7.out.call hc8 ho8)
            have HV8 := Lib.hid (HV7.out.only ho8 hlt)
            have HL8 := Lib.hid (txt_len (by omega) (by omega) hl8)
            clear hc8 ho8 hl8 HD7 HV7
            go_wp2_with fail
            refine (l3Mirror_any _ [l8] _ (show Own (w8.alloc (.cells #[.string (txt l8)] 9)) 9 (.slice (some ⟨w8.heap.size, 0, none⟩) 1 1) (strs [l8]) from Own.lit w8 9 [.string (txt l8)] (by simp)).txts (by simp)).mono ?_
            rintro e9 w9 ⟨v9, rfl, hn9, hb9⟩
            have hal := (Below.refl w8.heap.size w8).alloc (Nat.le_refl _) (.cells #[.string (txt l8)] 9)
            have hb8 := hal.trans (hb9.mono hal.size)
            have HD9 := Lib.hid (HD8.out.below HC.out (hb8.mono HD8.out.only.size))
            have HV9 := Lib.hid (HV8.out.kept hb8)
            have hlen9 : (pal [l8]).length = 1 := rfl
            obtain ⟨a9, c9, hv9, ha9⟩ := hn9.own.view
            rw [strs_len, hlen9] at hv9 ha9
            obtain ⟨g9, hg9⟩ := ha9 (by omega)
            subst hg9
            subst hv9
            have hcl : ∀ t y, (strs (pal [l8]))[t]? = some y → w9.cell? ((⟨g9, 0, none⟩ : Addr).add t) = some y := fun t y hy => by
              rw [add_at, Nat.zero_add]
              exact hn9.own.cell t y hy
            have HCL := Lib.hid hcl
            have hpl : (pal H).length ≤ 11 := by rw [pal_len]; omega
            clear hn9 hb9 hal hb8 ha9 hcl HD8 HV8
            go_wp2_with (at_builtin; refine wpList_appN rfl (.tmp 34) (.tmp 39) 24 rfl 9 i0 (.string ⟨#[]⟩) 16 Tryd.underlying24 I0.out.1 I0.out.2.1 I0.out.2.2.1 I0.out.2.2.2 rfl w.heap.size w9 _ (strs (pal H)) rfl HV9.out ⟨g9, 0, none⟩ 1 c9 (strs (pal [l8])) rfl rfl HCL.out (strs_one _) HD9.out.only.size (Below.refl _ _) (by rw [strs_len]; omega) (by omega) ?_)
            intro va wa hna _ hba _ _
            have e4 : strs (pal H) ++ strs (pal [l8]) = strs (pal H ++ pal [l8]) := by simp [strs]
            rw [e4] at hna
            have HNA := Lib.hid hna
            have HDA := Lib.hid (HD9.out.below HC.out hba)
            have HSA := Lib.hid (show ∀ l ∈ pal H ++ pal [l8], l.length ≤ 10 from fun l hl => by
              rcases List.mem_append.1 hl with h9 | h9
              · exact HS9.out l (pal_mem h9)
              · simp [pal] at h9; rw [h9]; exact HL8.out)
            clear hna hba e4 HD9 HV9 HCL
            go_wp2
            go_ret
            exact ⟨_, pal H ++ pal [l8], rfl, HNA.out, by rw [List.length_append, hlen9]; omega, HSA.out, HDA.out.more (by omega)⟩
end Go.Proofs.YtdflpkkcjbdpfaaDoor
