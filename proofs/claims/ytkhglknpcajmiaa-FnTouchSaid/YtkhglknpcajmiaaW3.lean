/- Draws of lists of changes: a method. -/
import Derived.Test.YtkhglknpcajmiaaW2
import Derived.StillTailTactics
namespace Go.Proofs.Ytkhglknpcajmiaa
open Go.RowKit
set_option linter.unusedSimpArgs false
set_option linter.unusedVariables false

def SomeMethod (b : Nat) (a : Option Addr) (len cap m : Nat) (w : World) (e : Ending) (w' : World) : Prop :=
  ∃ (s : ByteArray) (n : Int) (v : Value) (L : List (List Nat)), e = .returned (.agg #[.string s, .int .i64 n, v]) ∧ s.size ≤ 10 ∧ 3 ≤ n ∧ n ≤ 6 ∧ New w.heap.size w' 9 v (strs L) ∧ L.length ≤ 20 ∧ (∀ l ∈ L, l.length ≤ 10) ∧ Dr b a len cap m w w'

def names : List ByteArray := [⟨#[97]⟩, ⟨#[112, 108, 97, 105, 110]⟩, ⟨#[98, 111, 98]⟩, ⟨#[108, 105, 116, 116, 108, 101]⟩]
theorem names_small : ∀ s ∈ names, s.size ≤ 10 := by
  intro s hs
  simp [names] at hs
  rcases hs with rfl | rfl | rfl | rfl <;> decide

/-- what a loop that adds to a method's changes keeps: the result's block, the struct's block, its row of changes -/
structure Mt (rb mb : Nat) (s : ByteArray) (n : Int) (B : Nat) (v : Value) (L : List (List Nat)) (W : World) : Prop where
  res : RowAt W rb 25 #[.string ⟨#[]⟩, .int .i64 0, .slice none 0 0]
  row : RowAt W mb 25 #[.string s, .int .i64 n, v]
  new : New B W 9 v (strs L)
  small : ∀ l ∈ L, l.length ≤ 10
theorem Mt.drew {rb mb : Nat} {s : ByteArray} {n : Int} {B : Nat} {v : Value} {L : List (List Nat)} {W : World} (h : Mt rb mb s n B v L W) : Mt rb mb s n B v L W.drew := ⟨h.res, h.row, h.new.drewN 1, h.small⟩
theorem Mt.call {rb mb b : Nat} {s : ByteArray} {n : Int} {B : Nat} {v : Value} {L : List (List Nat)} {W W' : World} (h : Mt rb mb s n B v L W) (ho : Only b W W') (hb : b < B) (hne : mb ≠ b) (hnr : rb ≠ b) : Mt rb mb s n B v L W' :=
  ⟨h.res.only ho hnr, h.row.only ho hne, h.new.only ho hb, h.small⟩
theorem Mt.alloc {rb mb : Nat} {s : ByteArray} {n : Int} {B : Nat} {v : Value} {L : List (List Nat)} {W : World} (h : Mt rb mb s n B v L W) (o : Obj) : Mt rb mb s n B v L (W.alloc o) := ⟨h.res.push o, h.row.push o, h.new.kept ((Below.refl _ _).alloc (Nat.le_refl _) o), h.small⟩
theorem Mt.app {rb mb : Nat} {s : ByteArray} {n : Int} {B : Nat} {v v' : Value} {L : List (List Nat)} {l : List Nat} {W W' : World} (h : Mt rb mb s n B v L W) (hne : rb ≠ mb) (hl : l.length ≤ 10) (hn : New B W' 9 v' (strs L ++ [.string (txt l)])) (hk : KeptBut W W' v) :
    Mt rb mb s n B v' (L ++ [l]) (W'.setCell ⟨mb, 2, none⟩ v') := by
  have hr := hk.row h.row (h.new.apartRow h.row (by decide))
  have hr0 := hk.row h.res (h.new.apartRow h.res (by decide))
  have e : strs L ++ [.string (txt l)] = strs (L ++ [l]) := by simp [strs]
  rw [e] at hn
  refine ⟨hr0.other _ _ hne, hr.set 2 v', hn.setOther _ _ _ (hn.apartRow hr (by decide)), fun x hx => ?_⟩
  rcases List.mem_append.1 hx with h9 | h9
  · exact h.small x h9
  · simp at h9; subst h9; exact hl

theorem Mt.done {rb mb b : Nat} {a : Option Addr} {len cap m m0 : Nat} {s : ByteArray} {n : Int} {w : World} {v : Value} {L : List (List Nat)} {W : World} (h : Mt rb mb s n w.heap.size v L W) (hd : Dr b a len cap m w W) (hc : Cur w b a len cap m0) (hrb : w.heap.size ≤ rb) (hne : rb ≠ mb) :
    RowAt (((W.setCell ⟨rb, 0, none⟩ (.string s)).setCell ⟨rb, 1, none⟩ (.int .i64 n)).setCell ⟨rb, 2, none⟩ v) rb 25 #[.string s, .int .i64 n, v] ∧
    New w.heap.size (((W.setCell ⟨rb, 0, none⟩ (.string s)).setCell ⟨rb, 1, none⟩ (.int .i64 n)).setCell ⟨rb, 2, none⟩ v) 9 v (strs L) ∧ (∀ l ∈ L, l.length ≤ 10) ∧
    Dr b a len cap m w (((W.setCell ⟨rb, 0, none⟩ (.string s)).setCell ⟨rb, 1, none⟩ (.int .i64 n)).setCell ⟨rb, 2, none⟩ v) := by
  have hr := ((h.res.set 0 (.string s)).set 1 (.int .i64 n)).set 2 v
  have hap := h.new.apartRow h.res (by decide)
  refine ⟨hr, ((h.new.setOther _ _ _ hap).setOther _ _ _ hap).setOther _ _ _ hap, h.small, hd.below hc ?_⟩
  have hB := (Below.refl w.heap.size W)
  exact ((hB.setCell (by show w.heap.size ≤ rb; omega) _).setCell (by show w.heap.size ≤ rb; omega) _).setCell (by show w.heap.size ≤ rb; omega) _

theorem Mt.put {rb mb : Nat} {s : ByteArray} {n : Int} {B : Nat} {u v' : Value} {L : List (List Nat)} {W' : World} (hr0 : RowAt W' rb 25 #[.string ⟨#[]⟩, .int .i64 0, .slice none 0 0]) (hr : RowAt W' mb 25 #[.string s, .int .i64 n, u]) (hne : rb ≠ mb)
    (hn : New B W' 9 v' (strs L)) (hs : ∀ l ∈ L, l.length ≤ 10) : Mt rb mb s n B v' L (W'.setCell ⟨mb, 2, none⟩ v') :=
  ⟨hr0.other _ _ hne, hr.set 2 v', hn.setOther _ _ _ (hn.apartRow hr (by decide)), hs⟩
theorem Mt.lower {rb mb : Nat} {s : ByteArray} {n : Int} {B B' : Nat} {v : Value} {L : List (List Nat)} {W : World} (h : Mt rb mb s n B v L W) (hB : B' ≤ B) : Mt rb mb s n B' v L W := ⟨h.res, h.row, h.new.lower hB, h.small⟩
theorem small_app {L : List (List Nat)} {l : List Nat} (h : ∀ x ∈ L, x.length ≤ 10) (hl : l.length ≤ 10) : ∀ x ∈ L ++ [l], x.length ≤ 10 := fun x hx => by
  rcases List.mem_append.1 hx with h9 | h9
  · exact h x h9
  · simp at h9; subst h9; exact hl
theorem New.under {B B2 : Nat} {W W' : World} {e : TypeId} {v : Value} {xs : List Value} (h : New B W e v xs) (hlt : ∀ g, v.ownBlock = some g → g < B2) (hb : Below B2 W W') : New B W' e v xs := ⟨h.own.block fun g hg => hb.block g (hlt g hg), h.base⟩

theorem txt_len {n : Nat} (h3 : 3 ≤ n) (h8 : n ≤ 8) {l : List Nat} (h : l ∈ chs n) : l.length ≤ 10 := by
  have := ch_small h3 h8 h
  rwa [txt_size] at this

set_option maxRecDepth 100000 in
set_option maxHeartbeats 8000000 in
theorem method_draw (b : Nat) (a : Option Addr) (len cap m : Nat) (hm : m ≤ 700000) (w : World) (hc : Cur w b a len cap m) :
    Calls Try.prog 158 #[.pointer (some ⟨b, 0, none⟩)] w (SomeMethod b a len cap (m + 100) w) := by
  have HC := Lib.hid hc
  have hlt := hc.lt
  clear hc
  obtain ⟨i0, hi0, hz0, hz1, hz2⟩ := info_parts infoText
  have I0 := Lib.hid (⟨hi0, hz0, hz1, hz2⟩ : _ ∧ _ ∧ _ ∧ _)
  clear hi0 hz0 hz1 hz2
  go_enter Try.func158, Try.ntmps158
  go_wp2_with fail
  refine (among_any (fun n => 3 ≤ n ∧ n ≤ 6) b a len cap m 6 (w.heap.size + 1) 6 (fun i => [4, 4, 5, 6, 6, 3].getD i 0) (by omega) (by omega) (by omega) _ (HC.out.below (((Below.refl w.heap.size w).alloc (Nat.le_refl _) _).alloc (by simp) _)) (by omega) (fun i hi => ⟨?_, ?_⟩)).mono ?_
  · have : i = 0 ∨ i = 1 ∨ i = 2 ∨ i = 3 ∨ i = 4 ∨ i = 5 := by omega
    rcases this with rfl | rfl | rfl | rfl | rfl | rfl <;> decide
  · have := list_cells (w.alloc (.cells #[.string ⟨#[]⟩, .int .i64 0, .slice none 0 0] 25)) [4, 4, 5, 6, 6, 3] 3 i hi
    simpa using this
  rintro e w1 ⟨x, hx, rfl, hc1, ho1⟩
  obtain ⟨n, rfl⟩ := Int.eq_ofNat_of_zero_le (show 0 ≤ x by omega)
  have hz9 := (RowAt.new w 25 #[.string ⟨#[]⟩, .int .i64 0, .slice none 0 0])
  have HR1 := Lib.hid ((hz9.push (.cells #[.int .i64 4, .int .i64 4, .int .i64 5, .int .i64 6, .int .i64 6, .int .i64 3] 3)).only ho1 (by omega))
  have HD1 := Lib.hid ((Dr.start HC.out).call hc1 ((Only.of_below (b := b) (((Below.refl w.heap.size w).alloc (Nat.le_refl _) _).alloc (by simp) _)).trans ho1))
  clear hc1 ho1 hz9
  go_wp2_with fail
  refine (ofList_draw b a len cap (m + 2) names names_small (by omega) (by decide) (by decide) _ HD1.out.cur 9).mono ?_
  rintro e w2 ⟨s, hs, rfl, hc2, ho2⟩
  have HSZ := Lib.hid hs
  have HR2 := Lib.hid (HR1.out.only ho2 (by omega))
  have HD2 := Lib.hid (HD1.out.call hc2 ho2)
  clear hc2 ho2 HR1 HD1
  have hmb := HR2.out.lt
  have hnr : ¬ w.heap.size = b := by omega
  have HM2 := Lib.hid (⟨HR2.out.push _, RowAt.new w2 25 #[.string s, .int .i64 n, .slice none 0 0], New.nil _ _ _, by simp⟩ : Mt w.heap.size w2.heap.size s n w.heap.size (.slice none 0 0) [] (w2.alloc (.cells #[.string s, .int .i64 n, .slice none 0 0] 25)))
  have HD2' := Lib.hid (HD2.out.below HC.out ((Below.refl w.heap.size w2).alloc HD2.out.only.size (.cells #[.string s, .int .i64 n, .slice none 0 0] 25)))
  clear HR2 HD2
  by_cases h4 : (4 : Int) ≤ n
  · go_wp2_with fail
    refine (one_any b a len cap _ 2 (by omega) (by omega) (by omega) _ HD2'.out.cur).mono ?_
    rintro e w3 ⟨t, rfl, hc3, ho3⟩
    have HD3 := Lib.hid (HD2'.out.call hc3 ho3)
    have HM3 := Lib.hid (HM2.out.call ho3 hlt (by omega) (by omega))
    clear hc3 ho3 HM2 HD2'
    cases t
    · have DONE : True := trivial
      go_wp2_with fail
      refine (one_any b a len cap _ 2 (by omega) (by omega) (by omega) _ HD3.out.cur).mono ?_
      rintro e w4 ⟨t2, rfl, hc4, ho4⟩
      have HD4 := Lib.hid (HD3.out.call hc4 ho4)
      have HM4 := Lib.hid (HM3.out.call ho4 hlt (by omega) (by omega))
      clear hc4 ho4 HM3 HD3
      cases t2
      · go_wp2_with fail
        refine (pick_any b a len cap _ 8 (by omega) (by omega) (by omega) _ HD4.out.cur).mono ?_
        rintro e w5 ⟨x8, hx8, rfl, hc5, ho5⟩
        have HD5 := Lib.hid (HD4.out.call hc5 ho5)
        have HM5 := Lib.hid (HM4.out.call ho5 hlt (by omega) (by omega))
        clear hc5 ho5 HM4 HD4
        go_wp2_with fail
        go_loopg [9] (1 + x8) (fun q i wr => ∃ (v : Value) (L : List (List Nat)) (mm : Nat), i = .int .i64 q ∧ Mt w.heap.size w2.heap.size s n w.heap.size v L wr ∧ Dr b a len cap mm w wr ∧ L.length + q ≤ 8 ∧ mm + 2 * q ≤ m + 40)
        case atStart => exact ⟨_, [], _, by go_num, HM5.out, HD5.out, by simp; omega, by omega⟩
        case round =>
          obtain ⟨v, L, mm, rfl, hmt, hdr, hL8, hmm⟩ := hrel
          have HM9 := Lib.hid hmt
          have HD9 := Lib.hid hdr
          clear hmt hdr HM5 HD5
          by_cases hg : 0 < gk
          · obtain ⟨g', hg'⟩ : ∃ g', gk = g' + 1 := ⟨gk - 1, by omega⟩
            subst hg'
            go_wp2_with fail
            have HMX := Lib.hid HM9.out.drew
            have HDX := Lib.hid (HD9.out.more (Nat.le_add_right _ 2)).drew
            obtain ⟨ao, co, hov, -⟩ := HM9.out.new.own.view
            subst hov
            have c2 := HMX.out.row.cell 2 rfl
            have f2 := HMX.out.row.free 2
            have HCH := Lib.hid (change_draw b a len cap mm n (by omega) (by omega) (by omega) _ HD9.out.drew.cur)
            clear HM9 HD9
            go_region_law (first | (go_simp; go_at_call 159; refine HCH.out.mono ?_; rintro e5 w5 ⟨l5, hl5, rfl, hc5, ho5⟩; have HMY := Lib.hid (HMX.out.call ho5 hlt (by omega) (by omega)); have HDY := Lib.hid (HDX.out.call hc5 ho5); have d2 := HMY.out.row.cell 2 rfl; have e2 := (HMY.out.alloc (.cells #[.string (txt l5)] 9)).row.cell 2 rfl) | (refine step_app1 rfl (.tmp 26) (.tmp 30) 23 rfl 9 i0 (.string ⟨#[]⟩) 16 Try.underlying23 I0.out.1 I0.out.2.1 I0.out.2.2.1 I0.out.2.2.2 rfl w.heap.size _ (strs L) rfl HMY.out.new rfl rfl HDY.out.only.size (by rw [strs_len]; omega) (by omega) ?_; intro v6 w6 hn6 hk6 hb6; obtain ⟨a6, c6, hv6, -⟩ := hn6.own.view; rw [show (strs L ++ [Value.string (txt l5)]).length = (strs L).length + 1 by simp] at hv6; subst hv6; have cz := (hk6.row HMY.out.row (HMY.out.new.apartRow HMY.out.row (by decide))).cell 2 rfl; have fz := (hk6.row HMY.out.row (HMY.out.new.apartRow HMY.out.row (by decide))).free 2) | fail)
            all_goals
              have HMN := Lib.hid (HMY.out.app (by omega) (txt_len (by omega) (by omega) hl5) hn6 hk6)
              have HDN := Lib.hid (HDY.out.below HC.out (show Below w.heap.size w5 (w6.setCell ⟨w2.heap.size, 2, none⟩ (.slice a6 ((strs L).length + 1) c6)) from (hb6.mono (Nat.le_refl _)).setCell (by show w.heap.size ≤ w2.heap.size; omega) _))
              clear hn6 hk6 hb6 hc5 ho5 HMY HDY HMX HDX c2 f2 d2 e2 cz fz
              go_wp2
              go_roundg g'
              case measure => omega
              case rel => exact ⟨_, L ++ [l5], mm + 2, by go_num, HMN.out, HDN.out, by simp; omega, by omega⟩
          · obtain rfl : gk = 0 := by omega
            clear hg
            have HDF := HD9
            clear HD9
            obtain ⟨ao, co, hov, -⟩ := HM9.out.new.own.view
            subst hov
            have c0 := HM9.out.row.cell 0 rfl
            have c1 := HM9.out.row.cell 1 rfl
            have c2 := HM9.out.row.cell 2 rfl
            have z0 := HM9.out.res.cell 0 rfl
            have z1 := HM9.out.res.cell 1 rfl
            have z2 := HM9.out.res.cell 2 rfl
            have f0 := HM9.out.res.free 0
            have f1 := HM9.out.res.free 1
            have f2 := HM9.out.res.free 2
            have HF := Lib.hid (HM9.out.done HDF.out HC.out (Nat.le_refl _) (by omega))
            clear HM9 HDF
            go_wp2
            try simp only [Exit.inBlock, Exit.then]
            exact bodyPost_ret (results_cell_row rfl _ _ w.heap.size 25 _ (0, 0) _ rfl HF.out.1 Try.underlying25 rfl (by kernel_rfl)) rfl ⟨s, n, _, _, rfl, HSZ.out, by omega, by omega, HF.out.2.1, by omega, HF.out.2.2.1, HF.out.2.2.2.more (by omega)⟩
      · go_wp2_with fail
        refine (pick_any b a len cap _ 4 (by omega) (by omega) (by omega) _ HD4.out.cur).mono ?_
        rintro e w5 ⟨x8, hx8, rfl, hc5, ho5⟩
        have HD5 := Lib.hid (HD4.out.call hc5 ho5)
        have HM5 := Lib.hid (HM4.out.call ho5 hlt (by omega) (by omega))
        clear hc5 ho5 HM4 HD4
        go_wp2_with fail
        go_loopg [6, 7] (1 + x8) (fun q hv i wr => ∃ (H : List (List Nat)) (mm : Nat), i = .int .i64 q ∧ Mt w.heap.size w2.heap.size s n w.heap.size (.slice none 0 0) [] wr ∧ New w.heap.size wr 9 hv (strs H) ∧ (∀ l ∈ H, l.length ≤ 10) ∧ Dr b a len cap mm w wr ∧ H.length + q = 1 + x8 ∧ mm + 2 * q ≤ m + 20)
        case atStart => exact ⟨[], _, by go_num, HM5.out, New.nil _ _ _, by simp, HD5.out, by simp, by omega⟩
        case round =>
          obtain ⟨H, mm, rfl, hmt, hhv, hsm, hdr, hL8, hmm⟩ := hrel
          have HM9 := Lib.hid hmt
          have HD9 := Lib.hid hdr
          have HH9 := Lib.hid hhv
          have HS9 := Lib.hid hsm
          clear hmt hdr hhv hsm HM5 HD5
          by_cases hg : 0 < gk
          · obtain ⟨g', hg'⟩ : ∃ g', gk = g' + 1 := ⟨gk - 1, by omega⟩
            subst hg'
            go_wp2_with fail
            refine (change_draw b a len cap mm n (by omega) (by omega) (by omega) _ HD9.out.cur).mono ?_
            rintro e5 w6 ⟨l5, hl5, rfl, hc5, ho5⟩
            have HM6 := Lib.hid (HM9.out.call ho5 hlt (by omega) (by omega))
            have HD6 := Lib.hid (HD9.out.call hc5 ho5)
            have HH6 := Lib.hid (HH9.out.only ho5 hlt)
            have HL5 := Lib.hid (small_app HS9.out (txt_len (by omega) (by omega) hl5))
            clear hc5 ho5 hl5 HM9 HD9 HH9 HS9
            go_wp2_with (at_builtin; refine wpList_app1 rfl (.tmp 60) (.tmp 64) 23 rfl 9 i0 (.string ⟨#[]⟩) 16 Try.underlying23 I0.out.1 I0.out.2.1 I0.out.2.2.1 I0.out.2.2.2 rfl w.heap.size w6 _ (strs H) rfl HH6.out rfl rfl HD6.out.only.size (Below.refl _ _) (by rw [strs_len]; omega) (by omega) ?_)
            intro v7 w7 hn7 hk7 hb7 _
            have HM7 := Lib.hid (⟨hk7.row HM6.out.res (HH6.out.apartRow HM6.out.res (by decide)), hk7.row HM6.out.row (HH6.out.apartRow HM6.out.row (by decide)), New.nil _ _ _, by simp⟩ : Mt w.heap.size w2.heap.size s n w.heap.size (.slice none 0 0) [] w7)
            have HD7 := Lib.hid (HD6.out.below HC.out hb7)
            have e7 : strs H ++ [.string (txt l5)] = strs (H ++ [l5]) := by simp [strs]
            rw [e7] at hn7
            have HH7 := Lib.hid hn7
            clear hn7 hk7 hb7 e7 HM6 HD6 HH6
            go_wp2
            go_roundg g'
            case measure => omega
            case rel => exact ⟨H ++ [l5], mm + 2, by go_num, HM7.out, HH7.out, HL5.out, HD7.out, by simp; omega, by omega⟩
          · obtain rfl : gk = 0 := by omega
            clear hg
            have hHl : H.length = 1 + x8 := by omega
            have hB2 := HD9.out.only.size
            obtain ⟨B2, hB2e⟩ : ∃ B2, wr.heap.size = B2 := ⟨_, rfl⟩
            rw [hB2e] at hB2
            have hmbl := HM9.out.row.lt
            have hrbl := HM9.out.res.lt
            rw [hB2e] at hmbl hrbl
            have hHlt := fun g hg => HH9.out.own.lt g hg
            rw [hB2e] at hHlt
            have HLW := Lib.hid hB2
            go_wp2_with fail
            refine (l1OwnS_any _ H wr HH9.out.own.txts (by omega)).mono ?_
            rintro e6 w6 ⟨v6, rfl, hn6, hb6⟩
            rw [hB2e] at hn6 hb6
            have HM6 := Lib.hid (⟨HM9.out.res.keep hb6 hrbl, HM9.out.row.keep hb6 hmbl, New.nil _ _ _, by simp⟩ : Mt w.heap.size w2.heap.size s n B2 (.slice none 0 0) [] w6)
            have HD6 := Lib.hid (HD9.out.below HC.out (hb6.mono hB2))
            have HH6 := Lib.hid (HH9.out.under hHlt hb6)
            have HV6 := Lib.hid hn6
            have HZ6 := Lib.hid (show B2 ≤ w6.heap.size from hB2e ▸ hb6.size)
            clear hn6 hb6 HM9 HD9 HH9
            go_wp2_with fail
            refine (change_draw b a len cap mm n (by omega) (by omega) (by omega) _ HD6.out.cur).mono ?_
            rintro e8 w8 ⟨l8, hl8, rfl, hc8, ho8⟩
            have hltB : b < B2 := by omega
            have HM8 := Lib.hid (HM6.out.call ho8 hltB (by omega) (by omega))
            have HD8 := Lib.hid (HD6.out.call hc8 ho8)
            have HH8 := Lib.hid (HH6.out.only ho8 hlt)
            have HV8 := Lib.hid (HV6.out.only ho8 hltB)
            have HZ8 := Lib.hid (Nat.le_trans HZ6.out ho8.size)
            have HL8 := Lib.hid (small_app HS9.out (txt_len (by omega) (by omega) hl8))
            clear hc8 ho8 hl8 HM6 HD6 HH6 HV6 HZ6
            go_wp2_with (at_builtin; refine wpList_app1 rfl (.tmp 67) (.tmp 71) 23 rfl 9 i0 (.string ⟨#[]⟩) 16 Try.underlying23 I0.out.1 I0.out.2.1 I0.out.2.2.1 I0.out.2.2.2 rfl B2 w8 _ (strs H) rfl HV8.out rfl rfl HZ8.out (Below.refl _ _) (by rw [strs_len]; omega) (by omega) ?_)
            intro v9 w9 hn9 hk9 hb9 _
            have e9 : strs H ++ [.string (txt l8)] = strs (H ++ [l8]) := by simp [strs]
            rw [e9] at hn9
            obtain ⟨a9, c9, hv9, -⟩ := hn9.own.view
            rw [strs_len, List.length_append, hHl, show [l8].length = 1 from rfl] at hv9
            subst hv9
            have hr9 := HM8.out.row.keep hb9 hmbl
            have hr8 := HM8.out.res.keep hb9 hrbl
            have cz := hr9.cell 2 rfl
            have fz := hr9.free 2
            have HM9 := Lib.hid (Mt.put hr8 hr9 (by omega) hn9 HL8.out)
            have HD9 := Lib.hid (HD8.out.below HC.out (show Below w.heap.size w8 (w9.setCell ⟨w2.heap.size, 2, none⟩ (.slice a9 (1 + x8 + 1) c9)) from (hb9.mono HLW.out).setCell (by show w.heap.size ≤ w2.heap.size; omega) _))
            have HZ9 := Lib.hid (Nat.le_trans HZ8.out hb9.size)
            have hh9 := HH8.out.under hHlt hb9
            obtain ⟨ah, ch, hhv, hah⟩ := hh9.own.view
            rw [strs_len, hHl] at hhv hah
            obtain ⟨gh, hgh⟩ := hah (by omega)
            subst hgh
            subst hhv
            have HH9 := Lib.hid (hh9.setOther w2.heap.size 2 (.slice a9 (1 + x8 + 1) c9) (hh9.apartRow hr9 (by decide)))
            have HHLT := Lib.hid hHlt
            clear hn9 hk9 hb9 hr9 hr8 hh9 hah e9 HM8 HD8 HH8 HV8 HZ8 hHlt
            have hx8i : (x8 : Int) < 4 := by omega
            go_wp2
            go_loopg [8] (1 + x8) (fun q i wz => ∃ (z : Int) (v : Value) (L : List (List Nat)), i = .int .i64 z ∧ z + 1 = q ∧ Mt w.heap.size w2.heap.size s n B2 v L wz ∧ New w.heap.size wz 9 (.slice (some ⟨gh, 0, none⟩) (1 + x8) ch) (strs H) ∧ Dr b a len cap (mm + 2) w wz ∧ L.length + q ≤ 12 ∧ q ≤ 1 + x8 ∧ B2 ≤ wz.heap.size)
            case atStart => exact ⟨_, _, _, by go_num, by go_num, HM9.out, HH9.out, HD9.out, by simp; omega, by omega, by simpa using HZ9.out⟩
            case round =>
              obtain ⟨z, v, L, rfl, hz, hmt, hhh, hdr, hL12, hq9, hz9⟩ := hrel
              clear HM9 HH9 HD9 HZ9 cz fz HL8
              have HM9 := Lib.hid hmt
              have HD9 := Lib.hid hdr
              have HH9 := Lib.hid hhh
              have HZ9 := Lib.hid hz9
              clear hmt hdr hhh hz9
              by_cases hg : 0 < gk
              · obtain ⟨g', hg'⟩ : ∃ g', gk = g' + 1 := ⟨gk - 1, by omega⟩
                subst hg'
                obtain rfl : z = (g' : Int) := by omega
                obtain ⟨l5, hl5⟩ : ∃ l, H[g']? = some l := ⟨_, List.getElem?_eq_getElem (by omega)⟩
                have HL5 := Lib.hid (HS9.out l5 (List.mem_of_getElem? hl5))
                have hgi : (g' : Int) < 1 + (x8 : Int) := by omega
                obtain ⟨ao, co, hov, -⟩ := HM9.out.new.own.view
                subst hov
                have ce := HH9.out.own.cell g' (.string (txt l5)) (by simp [strs, hl5])
                have c2 := HM9.out.row.cell 2 rfl
                have e2 := (HM9.out.alloc (.cells #[.string (txt l5)] 9)).row.cell 2 rfl
                have HMA := Lib.hid (HM9.out.alloc (.cells #[.string (txt l5)] 9)).drew
                have HDA := Lib.hid (HD9.out.below HC.out ((Below.refl w.heap.size wr).alloc HD9.out.only.size (.cells #[.string (txt l5)] 9))).drew
                have HHA := Lib.hid ((HH9.out.kept ((Below.refl _ _).alloc (Nat.le_refl _) (.cells #[.string (txt l5)] 9))).drewN 1)
                have HCA := Lib.hid (show (wr.alloc (.cells #[.string (txt l5)] 9)).drew.cell? ⟨wr.heap.size, 0, none⟩ = some (.string (txt l5)) from (RowAt.new wr 9 #[.string (txt l5)]).cell 0 rfl)
                have HZA := Lib.hid (show B2 ≤ (wr.alloc (.cells #[.string (txt l5)] 9)).drew.heap.size from Nat.le_trans HZ9.out ((Below.refl w.heap.size wr).alloc HD9.out.only.size (.cells #[.string (txt l5)] 9)).size)
                clear HM9 HD9 HH9 HZ9 hl5 hz
                go_wp2_with fail
                go_region_law (first | (refine step_appW rfl (.tmp 82) (.tmp 87) 23 rfl 9 i0 (.string ⟨#[]⟩) 16 Try.underlying23 I0.out.1 I0.out.2.1 I0.out.2.2.1 I0.out.2.2.2 rfl B2 _ (strs L) rfl HMA.out.new wr.heap.size rfl HCA.out rfl HZA.out (by rw [strs_len]; omega) (by omega) ?_; intro v6 w6 hn6 hk6 hb6; obtain ⟨a6, c6, hv6, -⟩ := hn6.own.view; rw [show (strs L ++ [Value.string (txt l5)]).length = (strs L).length + 1 by simp] at hv6; subst hv6; have cz := (hk6.row HMA.out.row (HMA.out.new.apartRow HMA.out.row (by decide))).cell 2 rfl; have fz := (hk6.row HMA.out.row (HMA.out.new.apartRow HMA.out.row (by decide))).free 2) | fail)
                all_goals
                  have HMN := Lib.hid (HMA.out.app (by omega) HL5.out hn6 hk6)
                  have HDN := Lib.hid (HDA.out.below HC.out (show Below w.heap.size _ (w6.setCell ⟨w2.heap.size, 2, none⟩ (.slice a6 ((strs L).length + 1) c6)) from (hb6.mono HLW.out).setCell (by show w.heap.size ≤ w2.heap.size; omega) _))
                  have HHN := Lib.hid ((HHA.out.under HHLT.out hb6).setOther w2.heap.size 2 (.slice a6 ((strs L).length + 1) c6) ((HHA.out.under HHLT.out hb6).apartRow (HMA.out.row.keep hb6 hmbl) (by decide)))
                  have HZN := Lib.hid (Nat.le_trans HZA.out hb6.size)
                  clear hn6 hk6 hb6 HMA HDA HHA HZA HCA c2 e2 ce cz fz HL5
                  go_wp2
                  go_roundg g'
                  case measure => omega
                  case rel => exact ⟨_, _, L ++ [l5], by go_num, by omega, HMN.out, HHN.out, HDN.out, by simp; omega, by omega, by simpa using HZN.out⟩
              · obtain rfl : gk = 0 := by omega
                obtain rfl : z = -1 := by omega
                clear hg hz
                generalize hmm9 : mm + 2 = mm' at *
                clear HH9 HHLT
                have hmm8 : mm' ≤ m + 30 := by omega
                clear hmm9
                go_wp2_with fail
                have HMX := Lib.hid HM9.out.drew
                have HDX := Lib.hid (HD9.out.more (Nat.le_add_right _ 2)).drew
                obtain ⟨ao, co, hov, -⟩ := HM9.out.new.own.view
                subst hov
                have c2 := HMX.out.row.cell 2 rfl
                have f2 := HMX.out.row.free 2
                have HCH := Lib.hid (change_draw b a len cap mm' n (by omega) (by omega) (by omega) _ HD9.out.drew.cur)
                clear HM9 HD9
                go_region_law (first | (go_simp; go_at_call 159; refine HCH.out.mono ?_; rintro e5 w5 ⟨l5, hl5, rfl, hc5, ho5⟩; have HMY := Lib.hid (HMX.out.call ho5 hltB (by omega) (by omega)); have HDY := Lib.hid (HDX.out.call hc5 ho5); have d2 := HMY.out.row.cell 2 rfl; have e2 := (HMY.out.alloc (.cells #[.string (txt l5)] 9)).row.cell 2 rfl) | (refine step_app1 rfl (.tmp 91) (.tmp 95) 23 rfl 9 i0 (.string ⟨#[]⟩) 16 Try.underlying23 I0.out.1 I0.out.2.1 I0.out.2.2.1 I0.out.2.2.2 rfl B2 _ (strs L) rfl HMY.out.new rfl rfl (Nat.le_trans HZ9.out ho5.size) (by rw [strs_len]; omega) (by omega) ?_; intro v6 w6 hn6 hk6 hb6; obtain ⟨a6, c6, hv6, -⟩ := hn6.own.view; rw [show (strs L ++ [Value.string (txt l5)]).length = (strs L).length + 1 by simp] at hv6; subst hv6; have cz := (hk6.row HMY.out.row (HMY.out.new.apartRow HMY.out.row (by decide))).cell 2 rfl; have fz := (hk6.row HMY.out.row (HMY.out.new.apartRow HMY.out.row (by decide))).free 2) | fail)
                all_goals
                  have HMN := Lib.hid (HMY.out.app (by omega) (txt_len (by omega) (by omega) hl5) hn6 hk6)
                  have HDN := Lib.hid (HDY.out.below HC.out (show Below w.heap.size w5 (w6.setCell ⟨w2.heap.size, 2, none⟩ (.slice a6 ((strs L).length + 1) c6)) from (hb6.mono HLW.out).setCell (by show w.heap.size ≤ w2.heap.size; omega) _))
                  clear hn6 hk6 hb6 hc5 ho5 HMY HDY HMX HDX c2 f2 d2 e2 cz fz
                  have HMF := Lib.hid (HMN.out.lower HLW.out)
                  have HDF := HDN
                  clear HMN HDN
                  have c0 := HMF.out.row.cell 0 rfl
                  have c1 := HMF.out.row.cell 1 rfl
                  have c2 := HMF.out.row.cell 2 rfl
                  have z0 := HMF.out.res.cell 0 rfl
                  have z1 := HMF.out.res.cell 1 rfl
                  have z2 := HMF.out.res.cell 2 rfl
                  have f0 := HMF.out.res.free 0
                  have f1 := HMF.out.res.free 1
                  have f2 := HMF.out.res.free 2
                  have HF := Lib.hid (HMF.out.done HDF.out HC.out (Nat.le_refl _) (by omega))
                  clear HMF HDF
                  go_wp2
                  try simp only [Exit.inBlock, Exit.then]
                  exact bodyPost_ret (results_cell_row rfl _ _ w.heap.size 25 _ (0, 0) _ rfl HF.out.1 Try.underlying25 rfl (by kernel_rfl)) rfl ⟨s, n, _, _, rfl, HSZ.out, by omega, by omega, HF.out.2.1, by simp; omega, HF.out.2.2.1, HF.out.2.2.2.more (by omega)⟩

    · have hmod : n % 2 = 0 ∨ n % 2 = 1 := by omega
      rcases hmod with hm9 | hm9
      · have hmi : (n : Int) % 2 = 0 := by omega
        go_wp2_with fail
        refine (l4Hunting_any n (by omega) (by omega) ⟨#[49, 50]⟩ (by decide) _).mono ?_
        rintro e w5 ⟨v, L, rfl, ⟨hn5, hL5, hs5⟩, hb5⟩
        obtain ⟨ao, co, hov, -⟩ := hn5.own.view
        subst hov
        have hr9 := HM3.out.row.kept hb5
        have hr8 := HM3.out.res.kept hb5
        have cz := hr9.cell 2 rfl
        have fz := hr9.free 2
        have HMF := Lib.hid (Mt.put hr8 hr9 (by omega) (hn5.lower HD3.out.only.size) hs5)
        have HDF := Lib.hid (HD3.out.below HC.out (show Below w.heap.size _ (w5.setCell ⟨w2.heap.size, 2, none⟩ (.slice ao (strs L).length co)) from (hb5.mono HD3.out.only.size).setCell (by show w.heap.size ≤ w2.heap.size; omega) _))
        clear hn5 hb5 hr9 hr8 HD3 HM3
        have c0 := HMF.out.row.cell 0 rfl
        have c1 := HMF.out.row.cell 1 rfl
        have c2 := HMF.out.row.cell 2 rfl
        have z0 := HMF.out.res.cell 0 rfl
        have z1 := HMF.out.res.cell 1 rfl
        have z2 := HMF.out.res.cell 2 rfl
        have f0 := HMF.out.res.free 0
        have f1 := HMF.out.res.free 1
        have f2 := HMF.out.res.free 2
        have HF := Lib.hid (HMF.out.done HDF.out HC.out (Nat.le_refl _) (by omega))
        clear HMF HDF
        go_wp2
        try simp only [Exit.inBlock, Exit.then]
        exact bodyPost_ret (results_cell_row rfl _ _ w.heap.size 25 _ (0, 0) _ rfl HF.out.1 Try.underlying25 rfl (by kernel_rfl)) rfl ⟨s, n, _, _, rfl, HSZ.out, by omega, by omega, HF.out.2.1, by omega, HF.out.2.2.1, HF.out.2.2.2.more (by omega)⟩
      · have hmi : (n : Int) % 2 = 1 := by omega
        go_wp2_with fail
        refine (l1Num_digit n (by omega) _).mono ?_
        rintro e w4 ⟨rfl, hb4⟩
        have HD4 := Lib.hid (HD3.out.below HC.out (hb4.mono HD3.out.only.size))
        have HM4 := Lib.hid (⟨HM3.out.res.kept hb4, HM3.out.row.kept hb4, New.nil _ _ _, by simp⟩ : Mt w.heap.size w2.heap.size s n w.heap.size (.slice none 0 0) [] w4)
        clear hb4 HD3 HM3
        have HD3 := HD4
        have HM3 := HM4
        clear HD4 HM4
        go_wp2_with fail
        refine (l4Hunting_any n (by omega) (by omega) _ (by rw [ByteArray.size_append, txt_size]; show 2 + 1 ≤ 10; omega) _).mono ?_
        rintro e w5 ⟨v, L, rfl, ⟨hn5, hL5, hs5⟩, hb5⟩
        obtain ⟨ao, co, hov, -⟩ := hn5.own.view
        subst hov
        have hr9 := HM3.out.row.kept hb5
        have hr8 := HM3.out.res.kept hb5
        have cz := hr9.cell 2 rfl
        have fz := hr9.free 2
        have HMF := Lib.hid (Mt.put hr8 hr9 (by omega) (hn5.lower HD3.out.only.size) hs5)
        have HDF := Lib.hid (HD3.out.below HC.out (show Below w.heap.size _ (w5.setCell ⟨w2.heap.size, 2, none⟩ (.slice ao (strs L).length co)) from (hb5.mono HD3.out.only.size).setCell (by show w.heap.size ≤ w2.heap.size; omega) _))
        clear hn5 hb5 hr9 hr8 HD3 HM3
        have c0 := HMF.out.row.cell 0 rfl
        have c1 := HMF.out.row.cell 1 rfl
        have c2 := HMF.out.row.cell 2 rfl
        have z0 := HMF.out.res.cell 0 rfl
        have z1 := HMF.out.res.cell 1 rfl
        have z2 := HMF.out.res.cell 2 rfl
        have f0 := HMF.out.res.free 0
        have f1 := HMF.out.res.free 1
        have f2 := HMF.out.res.free 2
        have HF := Lib.hid (HMF.out.done HDF.out HC.out (Nat.le_refl _) (by omega))
        clear HMF HDF
        go_wp2
        try simp only [Exit.inBlock, Exit.then]
        exact bodyPost_ret (results_cell_row rfl _ _ w.heap.size 25 _ (0, 0) _ rfl HF.out.1 Try.underlying25 rfl (by kernel_rfl)) rfl ⟨s, n, _, _, rfl, HSZ.out, by omega, by omega, HF.out.2.1, by omega, HF.out.2.2.1, HF.out.2.2.2.more (by omega)⟩
  · have HD3 := HD2'
    have HM3 := HM2
    clear HM2 HD2'
    go_wp2_with fail
    refine (one_any b a len cap _ 2 (by omega) (by omega) (by omega) _ HD3.out.cur).mono ?_
    rintro e w4 ⟨t2, rfl, hc4, ho4⟩
    have HD4 := Lib.hid (HD3.out.call hc4 ho4)
    have HM4 := Lib.hid (HM3.out.call ho4 hlt (by omega) (by omega))
    clear hc4 ho4 HM3 HD3
    cases t2
    · go_wp2_with fail
      refine (pick_any b a len cap _ 8 (by omega) (by omega) (by omega) _ HD4.out.cur).mono ?_
      rintro e w5 ⟨x8, hx8, rfl, hc5, ho5⟩
      have HD5 := Lib.hid (HD4.out.call hc5 ho5)
      have HM5 := Lib.hid (HM4.out.call ho5 hlt (by omega) (by omega))
      clear hc5 ho5 HM4 HD4
      go_wp2_with fail
      go_loopg [9] (1 + x8) (fun q i wr => ∃ (v : Value) (L : List (List Nat)) (mm : Nat), i = .int .i64 q ∧ Mt w.heap.size w2.heap.size s n w.heap.size v L wr ∧ Dr b a len cap mm w wr ∧ L.length + q ≤ 8 ∧ mm + 2 * q ≤ m + 40)
      case atStart => exact ⟨_, [], _, by go_num, HM5.out, HD5.out, by simp; omega, by omega⟩
      case round =>
        obtain ⟨v, L, mm, rfl, hmt, hdr, hL8, hmm⟩ := hrel
        have HM9 := Lib.hid hmt
        have HD9 := Lib.hid hdr
        clear hmt hdr HM5 HD5
        by_cases hg : 0 < gk
        · obtain ⟨g', hg'⟩ : ∃ g', gk = g' + 1 := ⟨gk - 1, by omega⟩
          subst hg'
          go_wp2_with fail
          have HMX := Lib.hid HM9.out.drew
          have HDX := Lib.hid (HD9.out.more (Nat.le_add_right _ 2)).drew
          obtain ⟨ao, co, hov, -⟩ := HM9.out.new.own.view
          subst hov
          have c2 := HMX.out.row.cell 2 rfl
          have f2 := HMX.out.row.free 2
          have HCH := Lib.hid (change_draw b a len cap mm n (by omega) (by omega) (by omega) _ HD9.out.drew.cur)
          clear HM9 HD9
          go_region_law (first | (go_simp; go_at_call 159; refine HCH.out.mono ?_; rintro e5 w5 ⟨l5, hl5, rfl, hc5, ho5⟩; have HMY := Lib.hid (HMX.out.call ho5 hlt (by omega) (by omega)); have HDY := Lib.hid (HDX.out.call hc5 ho5); have d2 := HMY.out.row.cell 2 rfl; have e2 := (HMY.out.alloc (.cells #[.string (txt l5)] 9)).row.cell 2 rfl) | (refine step_app1 rfl (.tmp 26) (.tmp 30) 23 rfl 9 i0 (.string ⟨#[]⟩) 16 Try.underlying23 I0.out.1 I0.out.2.1 I0.out.2.2.1 I0.out.2.2.2 rfl w.heap.size _ (strs L) rfl HMY.out.new rfl rfl HDY.out.only.size (by rw [strs_len]; omega) (by omega) ?_; intro v6 w6 hn6 hk6 hb6; obtain ⟨a6, c6, hv6, -⟩ := hn6.own.view; rw [show (strs L ++ [Value.string (txt l5)]).length = (strs L).length + 1 by simp] at hv6; subst hv6; have cz := (hk6.row HMY.out.row (HMY.out.new.apartRow HMY.out.row (by decide))).cell 2 rfl; have fz := (hk6.row HMY.out.row (HMY.out.new.apartRow HMY.out.row (by decide))).free 2) | fail)
          all_goals
            have HMN := Lib.hid (HMY.out.app (by omega) (txt_len (by omega) (by omega) hl5) hn6 hk6)
            have HDN := Lib.hid (HDY.out.below HC.out (show Below w.heap.size w5 (w6.setCell ⟨w2.heap.size, 2, none⟩ (.slice a6 ((strs L).length + 1) c6)) from (hb6.mono (Nat.le_refl _)).setCell (by show w.heap.size ≤ w2.heap.size; omega) _))
            clear hn6 hk6 hb6 hc5 ho5 HMY HDY HMX HDX c2 f2 d2 e2 cz fz
            go_wp2
            go_roundg g'
            case measure => omega
            case rel => exact ⟨_, L ++ [l5], mm + 2, by go_num, HMN.out, HDN.out, by simp; omega, by omega⟩
        · obtain rfl : gk = 0 := by omega
          clear hg
          have HDF := HD9
          clear HD9
          obtain ⟨ao, co, hov, -⟩ := HM9.out.new.own.view
          subst hov
          have c0 := HM9.out.row.cell 0 rfl
          have c1 := HM9.out.row.cell 1 rfl
          have c2 := HM9.out.row.cell 2 rfl
          have z0 := HM9.out.res.cell 0 rfl
          have z1 := HM9.out.res.cell 1 rfl
          have z2 := HM9.out.res.cell 2 rfl
          have f0 := HM9.out.res.free 0
          have f1 := HM9.out.res.free 1
          have f2 := HM9.out.res.free 2
          have HF := Lib.hid (HM9.out.done HDF.out HC.out (Nat.le_refl _) (by omega))
          clear HM9 HDF
          go_wp2
          try simp only [Exit.inBlock, Exit.then]
          exact bodyPost_ret (results_cell_row rfl _ _ w.heap.size 25 _ (0, 0) _ rfl HF.out.1 Try.underlying25 rfl (by kernel_rfl)) rfl ⟨s, n, _, _, rfl, HSZ.out, by omega, by omega, HF.out.2.1, by omega, HF.out.2.2.1, HF.out.2.2.2.more (by omega)⟩
    · go_wp2_with fail
      refine (pick_any b a len cap _ 4 (by omega) (by omega) (by omega) _ HD4.out.cur).mono ?_
      rintro e w5 ⟨x8, hx8, rfl, hc5, ho5⟩
      have HD5 := Lib.hid (HD4.out.call hc5 ho5)
      have HM5 := Lib.hid (HM4.out.call ho5 hlt (by omega) (by omega))
      clear hc5 ho5 HM4 HD4
      go_wp2_with fail
      go_loopg [6, 7] (1 + x8) (fun q hv i wr => ∃ (H : List (List Nat)) (mm : Nat), i = .int .i64 q ∧ Mt w.heap.size w2.heap.size s n w.heap.size (.slice none 0 0) [] wr ∧ New w.heap.size wr 9 hv (strs H) ∧ (∀ l ∈ H, l.length ≤ 10) ∧ Dr b a len cap mm w wr ∧ H.length + q = 1 + x8 ∧ mm + 2 * q ≤ m + 20)
      case atStart => exact ⟨[], _, by go_num, HM5.out, New.nil _ _ _, by simp, HD5.out, by simp, by omega⟩
      case round =>
        obtain ⟨H, mm, rfl, hmt, hhv, hsm, hdr, hL8, hmm⟩ := hrel
        have HM9 := Lib.hid hmt
        have HD9 := Lib.hid hdr
        have HH9 := Lib.hid hhv
        have HS9 := Lib.hid hsm
        clear hmt hdr hhv hsm HM5 HD5
        by_cases hg : 0 < gk
        · obtain ⟨g', hg'⟩ : ∃ g', gk = g' + 1 := ⟨gk - 1, by omega⟩
          subst hg'
          go_wp2_with fail
          refine (change_draw b a len cap mm n (by omega) (by omega) (by omega) _ HD9.out.cur).mono ?_
          rintro e5 w6 ⟨l5, hl5, rfl, hc5, ho5⟩
          have HM6 := Lib.hid (HM9.out.call ho5 hlt (by omega) (by omega))
          have HD6 := Lib.hid (HD9.out.call hc5 ho5)
          have HH6 := Lib.hid (HH9.out.only ho5 hlt)
          have HL5 := Lib.hid (small_app HS9.out (txt_len (by omega) (by omega) hl5))
          clear hc5 ho5 hl5 HM9 HD9 HH9 HS9
          go_wp2_with (at_builtin; refine wpList_app1 rfl (.tmp 60) (.tmp 64) 23 rfl 9 i0 (.string ⟨#[]⟩) 16 Try.underlying23 I0.out.1 I0.out.2.1 I0.out.2.2.1 I0.out.2.2.2 rfl w.heap.size w6 _ (strs H) rfl HH6.out rfl rfl HD6.out.only.size (Below.refl _ _) (by rw [strs_len]; omega) (by omega) ?_)
          intro v7 w7 hn7 hk7 hb7 _
          have HM7 := Lib.hid (⟨hk7.row HM6.out.res (HH6.out.apartRow HM6.out.res (by decide)), hk7.row HM6.out.row (HH6.out.apartRow HM6.out.row (by decide)), New.nil _ _ _, by simp⟩ : Mt w.heap.size w2.heap.size s n w.heap.size (.slice none 0 0) [] w7)
          have HD7 := Lib.hid (HD6.out.below HC.out hb7)
          have e7 : strs H ++ [.string (txt l5)] = strs (H ++ [l5]) := by simp [strs]
          rw [e7] at hn7
          have HH7 := Lib.hid hn7
          clear hn7 hk7 hb7 e7 HM6 HD6 HH6
          go_wp2
          go_roundg g'
          case measure => omega
          case rel => exact ⟨H ++ [l5], mm + 2, by go_num, HM7.out, HH7.out, HL5.out, HD7.out, by simp; omega, by omega⟩
        · obtain rfl : gk = 0 := by omega
          clear hg
          have hHl : H.length = 1 + x8 := by omega
          have hB2 := HD9.out.only.size
          obtain ⟨B2, hB2e⟩ : ∃ B2, wr.heap.size = B2 := ⟨_, rfl⟩
          rw [hB2e] at hB2
          have hmbl := HM9.out.row.lt
          have hrbl := HM9.out.res.lt
          rw [hB2e] at hmbl hrbl
          have hHlt := fun g hg => HH9.out.own.lt g hg
          rw [hB2e] at hHlt
          have HLW := Lib.hid hB2
          go_wp2_with fail
          refine (l1OwnS_any _ H wr HH9.out.own.txts (by omega)).mono ?_
          rintro e6 w6 ⟨v6, rfl, hn6, hb6⟩
          rw [hB2e] at hn6 hb6
          have HM6 := Lib.hid (⟨HM9.out.res.keep hb6 hrbl, HM9.out.row.keep hb6 hmbl, New.nil _ _ _, by simp⟩ : Mt w.heap.size w2.heap.size s n B2 (.slice none 0 0) [] w6)
          have HD6 := Lib.hid (HD9.out.below HC.out (hb6.mono hB2))
          have HH6 := Lib.hid (HH9.out.under hHlt hb6)
          have HV6 := Lib.hid hn6
          have HZ6 := Lib.hid (show B2 ≤ w6.heap.size from hB2e ▸ hb6.size)
          clear hn6 hb6 HM9 HD9 HH9
          go_wp2_with fail
          refine (change_draw b a len cap mm n (by omega) (by omega) (by omega) _ HD6.out.cur).mono ?_
          rintro e8 w8 ⟨l8, hl8, rfl, hc8, ho8⟩
          have hltB : b < B2 := by omega
          have HM8 := Lib.hid (HM6.out.call ho8 hltB (by omega) (by omega))
          have HD8 := Lib.hid (HD6.out.call hc8 ho8)
          have HH8 := Lib.hid (HH6.out.only ho8 hlt)
          have HV8 := Lib.hid (HV6.out.only ho8 hltB)
          have HZ8 := Lib.hid (Nat.le_trans HZ6.out ho8.size)
          have HL8 := Lib.hid (small_app HS9.out (txt_len (by omega) (by omega) hl8))
          clear hc8 ho8 hl8 HM6 HD6 HH6 HV6 HZ6
          go_wp2_with (at_builtin; refine wpList_app1 rfl (.tmp 67) (.tmp 71) 23 rfl 9 i0 (.string ⟨#[]⟩) 16 Try.underlying23 I0.out.1 I0.out.2.1 I0.out.2.2.1 I0.out.2.2.2 rfl B2 w8 _ (strs H) rfl HV8.out rfl rfl HZ8.out (Below.refl _ _) (by rw [strs_len]; omega) (by omega) ?_)
          intro v9 w9 hn9 hk9 hb9 _
          have e9 : strs H ++ [.string (txt l8)] = strs (H ++ [l8]) := by simp [strs]
          rw [e9] at hn9
          obtain ⟨a9, c9, hv9, -⟩ := hn9.own.view
          rw [strs_len, List.length_append, hHl, show [l8].length = 1 from rfl] at hv9
          subst hv9
          have hr9 := HM8.out.row.keep hb9 hmbl
          have hr8 := HM8.out.res.keep hb9 hrbl
          have cz := hr9.cell 2 rfl
          have fz := hr9.free 2
          have HM9 := Lib.hid (Mt.put hr8 hr9 (by omega) hn9 HL8.out)
          have HD9 := Lib.hid (HD8.out.below HC.out (show Below w.heap.size w8 (w9.setCell ⟨w2.heap.size, 2, none⟩ (.slice a9 (1 + x8 + 1) c9)) from (hb9.mono HLW.out).setCell (by show w.heap.size ≤ w2.heap.size; omega) _))
          have HZ9 := Lib.hid (Nat.le_trans HZ8.out hb9.size)
          have hh9 := HH8.out.under hHlt hb9
          obtain ⟨ah, ch, hhv, hah⟩ := hh9.own.view
          rw [strs_len, hHl] at hhv hah
          obtain ⟨gh, hgh⟩ := hah (by omega)
          subst hgh
          subst hhv
          have HH9 := Lib.hid (hh9.setOther w2.heap.size 2 (.slice a9 (1 + x8 + 1) c9) (hh9.apartRow hr9 (by decide)))
          have HHLT := Lib.hid hHlt
          clear hn9 hk9 hb9 hr9 hr8 hh9 hah e9 HM8 HD8 HH8 HV8 HZ8 hHlt
          have hx8i : (x8 : Int) < 4 := by omega
          go_wp2
          go_loopg [8] (1 + x8) (fun q i wz => ∃ (z : Int) (v : Value) (L : List (List Nat)), i = .int .i64 z ∧ z + 1 = q ∧ Mt w.heap.size w2.heap.size s n B2 v L wz ∧ New w.heap.size wz 9 (.slice (some ⟨gh, 0, none⟩) (1 + x8) ch) (strs H) ∧ Dr b a len cap (mm + 2) w wz ∧ L.length + q ≤ 12 ∧ q ≤ 1 + x8 ∧ B2 ≤ wz.heap.size)
          case atStart => exact ⟨_, _, _, by go_num, by go_num, HM9.out, HH9.out, HD9.out, by simp; omega, by omega, by simpa using HZ9.out⟩
          case round =>
            obtain ⟨z, v, L, rfl, hz, hmt, hhh, hdr, hL12, hq9, hz9⟩ := hrel
            clear HM9 HH9 HD9 HZ9 cz fz HL8
            have HM9 := Lib.hid hmt
            have HD9 := Lib.hid hdr
            have HH9 := Lib.hid hhh
            have HZ9 := Lib.hid hz9
            clear hmt hdr hhh hz9
            by_cases hg : 0 < gk
            · obtain ⟨g', hg'⟩ : ∃ g', gk = g' + 1 := ⟨gk - 1, by omega⟩
              subst hg'
              obtain rfl : z = (g' : Int) := by omega
              obtain ⟨l5, hl5⟩ : ∃ l, H[g']? = some l := ⟨_, List.getElem?_eq_getElem (by omega)⟩
              have HL5 := Lib.hid (HS9.out l5 (List.mem_of_getElem? hl5))
              have hgi : (g' : Int) < 1 + (x8 : Int) := by omega
              obtain ⟨ao, co, hov, -⟩ := HM9.out.new.own.view
              subst hov
              have ce := HH9.out.own.cell g' (.string (txt l5)) (by simp [strs, hl5])
              have c2 := HM9.out.row.cell 2 rfl
              have e2 := (HM9.out.alloc (.cells #[.string (txt l5)] 9)).row.cell 2 rfl
              have HMA := Lib.hid (HM9.out.alloc (.cells #[.string (txt l5)] 9)).drew
              have HDA := Lib.hid (HD9.out.below HC.out ((Below.refl w.heap.size wr).alloc HD9.out.only.size (.cells #[.string (txt l5)] 9))).drew
              have HHA := Lib.hid ((HH9.out.kept ((Below.refl _ _).alloc (Nat.le_refl _) (.cells #[.string (txt l5)] 9))).drewN 1)
              have HCA := Lib.hid (show (wr.alloc (.cells #[.string (txt l5)] 9)).drew.cell? ⟨wr.heap.size, 0, none⟩ = some (.string (txt l5)) from (RowAt.new wr 9 #[.string (txt l5)]).cell 0 rfl)
              have HZA := Lib.hid (show B2 ≤ (wr.alloc (.cells #[.string (txt l5)] 9)).drew.heap.size from Nat.le_trans HZ9.out ((Below.refl w.heap.size wr).alloc HD9.out.only.size (.cells #[.string (txt l5)] 9)).size)
              clear HM9 HD9 HH9 HZ9 hl5 hz
              go_wp2_with fail
              go_region_law (first | (refine step_appW rfl (.tmp 82) (.tmp 87) 23 rfl 9 i0 (.string ⟨#[]⟩) 16 Try.underlying23 I0.out.1 I0.out.2.1 I0.out.2.2.1 I0.out.2.2.2 rfl B2 _ (strs L) rfl HMA.out.new wr.heap.size rfl HCA.out rfl HZA.out (by rw [strs_len]; omega) (by omega) ?_; intro v6 w6 hn6 hk6 hb6; obtain ⟨a6, c6, hv6, -⟩ := hn6.own.view; rw [show (strs L ++ [Value.string (txt l5)]).length = (strs L).length + 1 by simp] at hv6; subst hv6; have cz := (hk6.row HMA.out.row (HMA.out.new.apartRow HMA.out.row (by decide))).cell 2 rfl; have fz := (hk6.row HMA.out.row (HMA.out.new.apartRow HMA.out.row (by decide))).free 2) | fail)
              all_goals
                have HMN := Lib.hid (HMA.out.app (by omega) HL5.out hn6 hk6)
                have HDN := Lib.hid (HDA.out.below HC.out (show Below w.heap.size _ (w6.setCell ⟨w2.heap.size, 2, none⟩ (.slice a6 ((strs L).length + 1) c6)) from (hb6.mono HLW.out).setCell (by show w.heap.size ≤ w2.heap.size; omega) _))
                have HHN := Lib.hid ((HHA.out.under HHLT.out hb6).setOther w2.heap.size 2 (.slice a6 ((strs L).length + 1) c6) ((HHA.out.under HHLT.out hb6).apartRow (HMA.out.row.keep hb6 hmbl) (by decide)))
                have HZN := Lib.hid (Nat.le_trans HZA.out hb6.size)
                clear hn6 hk6 hb6 HMA HDA HHA HZA HCA c2 e2 ce cz fz HL5
                go_wp2
                go_roundg g'
                case measure => omega
                case rel => exact ⟨_, _, L ++ [l5], by go_num, by omega, HMN.out, HHN.out, HDN.out, by simp; omega, by omega, by simpa using HZN.out⟩
            · obtain rfl : gk = 0 := by omega
              obtain rfl : z = -1 := by omega
              clear hg hz
              generalize hmm9 : mm + 2 = mm' at *
              clear HH9 HHLT
              have hmm8 : mm' ≤ m + 30 := by omega
              clear hmm9
              go_wp2_with fail
              have HMX := Lib.hid HM9.out.drew
              have HDX := Lib.hid (HD9.out.more (Nat.le_add_right _ 2)).drew
              obtain ⟨ao, co, hov, -⟩ := HM9.out.new.own.view
              subst hov
              have c2 := HMX.out.row.cell 2 rfl
              have f2 := HMX.out.row.free 2
              have HCH := Lib.hid (change_draw b a len cap mm' n (by omega) (by omega) (by omega) _ HD9.out.drew.cur)
              clear HM9 HD9
              go_region_law (first | (go_simp; go_at_call 159; refine HCH.out.mono ?_; rintro e5 w5 ⟨l5, hl5, rfl, hc5, ho5⟩; have HMY := Lib.hid (HMX.out.call ho5 hltB (by omega) (by omega)); have HDY := Lib.hid (HDX.out.call hc5 ho5); have d2 := HMY.out.row.cell 2 rfl; have e2 := (HMY.out.alloc (.cells #[.string (txt l5)] 9)).row.cell 2 rfl) | (refine step_app1 rfl (.tmp 91) (.tmp 95) 23 rfl 9 i0 (.string ⟨#[]⟩) 16 Try.underlying23 I0.out.1 I0.out.2.1 I0.out.2.2.1 I0.out.2.2.2 rfl B2 _ (strs L) rfl HMY.out.new rfl rfl (Nat.le_trans HZ9.out ho5.size) (by rw [strs_len]; omega) (by omega) ?_; intro v6 w6 hn6 hk6 hb6; obtain ⟨a6, c6, hv6, -⟩ := hn6.own.view; rw [show (strs L ++ [Value.string (txt l5)]).length = (strs L).length + 1 by simp] at hv6; subst hv6; have cz := (hk6.row HMY.out.row (HMY.out.new.apartRow HMY.out.row (by decide))).cell 2 rfl; have fz := (hk6.row HMY.out.row (HMY.out.new.apartRow HMY.out.row (by decide))).free 2) | fail)
              all_goals
                have HMN := Lib.hid (HMY.out.app (by omega) (txt_len (by omega) (by omega) hl5) hn6 hk6)
                have HDN := Lib.hid (HDY.out.below HC.out (show Below w.heap.size w5 (w6.setCell ⟨w2.heap.size, 2, none⟩ (.slice a6 ((strs L).length + 1) c6)) from (hb6.mono HLW.out).setCell (by show w.heap.size ≤ w2.heap.size; omega) _))
                clear hn6 hk6 hb6 hc5 ho5 HMY HDY HMX HDX c2 f2 d2 e2 cz fz
                have HMF := Lib.hid (HMN.out.lower HLW.out)
                have HDF := HDN
                clear HMN HDN
                have c0 := HMF.out.row.cell 0 rfl
                have c1 := HMF.out.row.cell 1 rfl
                have c2 := HMF.out.row.cell 2 rfl
                have z0 := HMF.out.res.cell 0 rfl
                have z1 := HMF.out.res.cell 1 rfl
                have z2 := HMF.out.res.cell 2 rfl
                have f0 := HMF.out.res.free 0
                have f1 := HMF.out.res.free 1
                have f2 := HMF.out.res.free 2
                have HF := Lib.hid (HMF.out.done HDF.out HC.out (Nat.le_refl _) (by omega))
                clear HMF HDF
                go_wp2
                try simp only [Exit.inBlock, Exit.then]
                exact bodyPost_ret (results_cell_row rfl _ _ w.heap.size 25 _ (0, 0) _ rfl HF.out.1 Try.underlying25 rfl (by kernel_rfl)) rfl ⟨s, n, _, _, rfl, HSZ.out, by omega, by omega, HF.out.2.1, by simp; omega, HF.out.2.2.1, HF.out.2.2.2.more (by omega)⟩

end Go.Proofs.Ytkhglknpcajmiaa
