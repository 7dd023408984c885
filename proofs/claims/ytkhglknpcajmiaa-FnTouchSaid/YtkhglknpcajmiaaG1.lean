/- Draws: any method. -/
import Derived.Test.YtkhglknpcajmiaaW3
namespace Go.Proofs.Ytkhglknpcajmiaa
open Go.RowKit
set_option linter.unusedSimpArgs false
set_option linter.unusedVariables false

def SomeMeth (b : Nat) (a : Option Addr) (len cap m : Nat) (w : World) (e : Ending) (w' : World) : Prop :=
  ∃ (s : ByteArray) (n : Int) (v : Value) (L : List (List Nat)), e = .returned (.agg #[.string s, .int .i64 n, v]) ∧ s.size ≤ 11 ∧ 2 ≤ n ∧ n ≤ 9 ∧ New w.heap.size w' 9 v (strs L) ∧ L.length ≤ 41 ∧ (∀ l ∈ L, l.length ≤ 10) ∧ Dr b a len cap m w w'

set_option maxRecDepth 100000 in
set_option maxHeartbeats 1000000 in
theorem ofK_draw (K : Nat) (b : Nat) (a : Option Addr) (len cap m n lb lcap : Nat) (L : Nat → ByteArray) (hm : m ≤ 900000) (hn : 1 ≤ n) (hn2 : n ≤ 65536) (w : World) (hc : Cur w b a len cap m) (hne : lb ≠ b)
    (hL : ∀ i, i < n → (L i).size ≤ K ∧ w.cell? ⟨lb, i, none⟩ = some (.string (L i))) :
    Calls Try.prog 104 #[.pointer (some ⟨b, 0, none⟩), .slice (some ⟨lb, 0, none⟩) n lcap] w (SomeText K b a len cap (m + 2) w) := by
  have HC := Lib.hid hc
  have HL := Lib.hid hL
  clear hc hL
  go_enter Try.func104, Try.ntmps104
  go_wp2_with fail
  refine (pick_any b a len cap m n hm hn hn2 _ HC.out).mono ?_
  rintro e w1 ⟨x, hx, rfl, hc1, ho1⟩
  have HC1 := Lib.hid hc1
  have HO1 := Lib.hid ho1
  have c1 : w1.cell? ⟨lb, x, none⟩ = some (.string (L x)) := by
    have hlt := block_lt_of_cell (HL.out x hx).2
    rw [World.cell?_of_block (w := w) (ho1.block lb hlt hne)]
    exact (HL.out x hx).2
  have hxi : (x : Int) < n := by omega
  have HS := Lib.hid (HL.out x hx).1
  generalize L x = t at c1 HS
  clear hc1 ho1
  go_wp2
  go_ret
  exact ⟨t, HS.out, rfl, HC1.out, HO1.out⟩
theorem small_K {K : Nat} {l : List ByteArray} (h : ∀ s ∈ l, s.size ≤ K) (i : Nat) : (l.getD i ⟨#[]⟩).size ≤ K := by
  rw [List.getD_eq_getElem?_getD]
  by_cases hi : i < l.length
  · rw [List.getElem?_eq_getElem hi]; exact h _ (List.getElem_mem hi)
  · rw [List.getElem?_eq_none (by omega)]; exact Nat.zero_le _
theorem ofK_any (K : Nat) (b : Nat) (a : Option Addr) (len cap m : Nat) (l : List ByteArray) (hl : ∀ s ∈ l, s.size ≤ K) (hm : m ≤ 900000) (hn : 1 ≤ l.length) (hn2 : l.length ≤ 100) (w : World) (hc : Cur w b a len cap m) (T : TypeId) :
    Calls Try.prog 104 #[.pointer (some ⟨b, 0, none⟩), .slice (some ⟨w.heap.size, 0, none⟩) l.length l.length] (w.alloc (.cells (l.map Value.string).toArray T)) fun e w' => ∃ s : ByteArray, s.size ≤ K ∧ e = .returned (.string s) ∧ Cur w' b a len cap (m + 2) ∧ Only b w w' := by
  have hlt := hc.lt
  refine (ofK_draw K b a len cap m l.length w.heap.size l.length (fun i => l.getD i ⟨#[]⟩) hm hn (by omega) _ (hc.below ((Below.refl _ _).alloc (Nat.le_refl _) _)) (by omega) (fun i hi => ⟨small_K hl i, text_cells w l T i hi⟩)).mono ?_
  rintro e w' ⟨s, h1, h2, h3, h4⟩
  exact ⟨s, h1, h2, h3, (Only.of_below (b := b) ((Below.refl w.heap.size w).alloc (Nat.le_refl _) _)).trans h4⟩
def names3 : List ByteArray := [⟨#[]⟩, ⟨#[65]⟩, ⟨#[101, 108, 101, 118, 101, 110, 108, 101, 116, 114, 115]⟩]
theorem names3_small : ∀ s ∈ names3, s.size ≤ 11 := by
  intro s hs
  simp [names3] at hs
  rcases hs with rfl | rfl | rfl <;> decide
theorem Mt.name {rb mb : Nat} {s : ByteArray} {n : Int} {B : Nat} {v : Value} {L : List (List Nat)} {W : World} (h : Mt rb mb s n B v L W) (s' : ByteArray) (hne : rb ≠ mb) : Mt rb mb s' n B v L (W.setCell ⟨mb, 0, none⟩ (.string s')) :=
  ⟨h.res.other _ _ hne, h.row.set 0 _, h.new.setOther _ _ _ (h.new.apartRow h.row (by decide)), h.small⟩
theorem Mt.stage {rb mb : Nat} {s : ByteArray} {n : Int} {B : Nat} {v : Value} {L : List (List Nat)} {W : World} (h : Mt rb mb s n B v L W) (n' : Int) (hne : rb ≠ mb) : Mt rb mb s n' B v L (W.setCell ⟨mb, 1, none⟩ (.int .i64 n')) :=
  ⟨h.res.other _ _ hne, h.row.set 1 _, h.new.setOther _ _ _ (h.new.apartRow h.row (by decide)), h.small⟩

set_option maxRecDepth 100000 in
set_option maxHeartbeats 8000000 in
theorem anyMethod_draw (b : Nat) (a : Option Addr) (len cap m : Nat) (hm : m ≤ 600000) (w : World) (hc : Cur w b a len cap m) :
    Calls Try.prog 145 #[.pointer (some ⟨b, 0, none⟩)] w (SomeMeth b a len cap (m + 400) w) := by
  have HC := Lib.hid hc
  have hlt := hc.lt
  clear hc
  obtain ⟨i0, hi0, hz0, hz1, hz2⟩ := info_parts infoText
  have I0 := Lib.hid (⟨hi0, hz0, hz1, hz2⟩ : _ ∧ _ ∧ _ ∧ _)
  clear hi0 hz0 hz1 hz2
  go_enter Try.func145, Try.ntmps145
  go_wp2_with fail
  refine (method_draw b a len cap m (by omega) _ (HC.out.below ((Below.refl _ _).alloc (Nat.le_refl _) _))).mono ?_
  rintro e w1 ⟨s, n, v, L, rfl, hsz, hn3, hn6, hn, hL, hs, hd⟩
  obtain ⟨n, rfl⟩ := Int.eq_ofNat_of_zero_le (show 0 ≤ n by omega)
  obtain ⟨av, cv, hv, -⟩ := hn.own.view
  rw [strs_len] at hv
  subst hv
  have HSZ := Lib.hid hsz
  have hz9 := (RowAt.new w 25 #[.string ⟨#[]⟩, .int .i64 0, .slice none 0 0]).only hd.only (by omega)
  have hO1 := (Only.of_below (b := b) ((Below.refl w.heap.size w).alloc (Nat.le_refl _) (.cells #[.string ⟨#[]⟩, .int .i64 0, .slice none 0 0] 25))).trans hd.only
  have HD1 := Lib.hid ((Dr.start HC.out).call hd.cur hO1)
  have hmb := hz9.lt
  have hwm := hO1.size
  have HMB : Hid (w.heap.size ≤ w1.heap.size) := Lib.hid (by omega)
  have HM1 := Lib.hid (⟨hz9.push _, RowAt.new w1 25 #[.string s, .int .i64 n, .slice av L.length cv], (hn.lower (by simp)).kept ((Below.refl _ _).alloc (Nat.le_refl _) _), hs⟩ : Mt w.heap.size w1.heap.size s n w.heap.size (.slice av L.length cv) L (w1.alloc (.cells #[.string s, .int .i64 n, .slice av L.length cv] 25)))
  have HD2 := Lib.hid (HD1.out.below HC.out ((Below.refl w.heap.size w1).alloc (by omega) (.cells #[.string s, .int .i64 n, .slice av L.length cv] 25)))
  clear hn hs hd hz9 hO1 HD1 hsz
  have hne : ¬ w1.heap.size = b := by omega
  go_wp2_with (first | (refine wpList_store_row rfl 25 _ _ rfl _ _ rfl rfl 25 _ (heap_alloc_new _ _) (by kernel_rfl) rfl (by kernel_rfl) ?_; rw [World.setRow_alloc_new]) | fail)
  refine (pick_any b a len cap _ 25 (by omega) (by omega) (by omega) _ HD2.out.cur).mono ?_
  rintro e w3 ⟨x, hx, rfl, hc3, ho3⟩
  have HD3 := Lib.hid (HD2.out.call hc3 ho3)
  have HM3 := Lib.hid (HM1.out.call ho3 hlt (by omega) (by omega))
  clear hc3 ho3 HD2 HM1
  have hx5 : x = 0 ∨ x = 1 ∨ x = 2 ∨ x = 3 ∨ x = 4 ∨ 5 ≤ x := by omega
  rcases hx5 with rfl | rfl | rfl | rfl | rfl | h5
  · go_wp2_with fail
    refine (ofK_any 11 b a len cap _ names3 names3_small (by omega) (by decide) (by decide) _ HD3.out.cur 9).mono ?_
    rintro e w4 ⟨s4, hs4, rfl, hc4, ho4⟩
    have HS4 := Lib.hid hs4
    have HD4 := Lib.hid (HD3.out.call hc4 ho4)
    have HM4 := Lib.hid (HM3.out.call ho4 hlt (by omega) (by omega))
    clear hc4 ho4 HM3 HD3 hs4
    have g0 := HM4.out.row.cell 0 rfl
    have e0 := HM4.out.row.free 0
    have HM5 := Lib.hid (HM4.out.name s4 (by omega))
    have HD5 := Lib.hid (HD4.out.below HC.out ((Below.refl w.heap.size w4).setCell (by show w.heap.size ≤ w1.heap.size; exact HMB.out) (p := ⟨w1.heap.size, 0, none⟩) (.string s4)))
    clear HM4 HD4
    have c0 := HM5.out.row.cell 0 rfl
    have c1 := HM5.out.row.cell 1 rfl
    have c2 := HM5.out.row.cell 2 rfl
    have z0 := HM5.out.res.cell 0 rfl
    have z1 := HM5.out.res.cell 1 rfl
    have z2 := HM5.out.res.cell 2 rfl
    have f0 := HM5.out.res.free 0
    have f1 := HM5.out.res.free 1
    have f2 := HM5.out.res.free 2
    have HF := Lib.hid (HM5.out.done HD5.out HC.out (Nat.le_refl _) (by omega))
    clear HM5 HD5
    go_wp2
    try simp only [Exit.inBlock, Exit.then]
    exact bodyPost_ret (results_cell_row rfl _ _ w.heap.size 25 _ (0, 0) _ rfl HF.out.1 Try.underlying25 rfl (by kernel_rfl)) rfl ⟨s4, n, _, L, rfl, HS4.out, by omega, by omega, HF.out.2.1, by omega, HF.out.2.2.1, HF.out.2.2.2.more (by omega)⟩
  · have g2 := HM3.out.row.cell 2 rfl
    go_wp2_with (at_builtin; refine wpList_app1 rfl (.tmp 18) (.tmp 19) 23 rfl 9 i0 (.string ⟨#[]⟩) 16 Try.underlying23 I0.out.1 I0.out.2.1 I0.out.2.2.1 I0.out.2.2.2 rfl w.heap.size w3 _ (strs L) rfl HM3.out.new rfl rfl HD3.out.only.size (Below.refl _ _) (by rw [strs_len]; omega) (by omega) ?_)
    intro v7 w7 hn7 hk7 hb7 _
    have HD7 := Lib.hid (HD3.out.below HC.out hb7)
    have e7 : strs L ++ [.string ⟨#[120]⟩] = strs L ++ [Value.string (txt [120])] := rfl
    rw [e7] at hn7
    have gz := (hk7.row HM3.out.row (HM3.out.new.apartRow HM3.out.row (by decide))).cell 2 rfl
    have ez := (hk7.row HM3.out.row (HM3.out.new.apartRow HM3.out.row (by decide))).free 2
    have HM7 := Lib.hid (HM3.out.app (by omega) (by simp : ([120] : List Nat).length ≤ 10) hn7 hk7)
    obtain ⟨a7, c7, hv7, -⟩ := hn7.own.view
    rw [show (strs L ++ [Value.string (txt [120])]).length = L.length + 1 by simp [strs_len]] at hv7
    subst hv7
    have HD8 := Lib.hid (HD7.out.below HC.out ((Below.refl w.heap.size w7).setCell (by show w.heap.size ≤ w1.heap.size; exact HMB.out) (p := ⟨w1.heap.size, 2, none⟩) (.slice a7 (L.length + 1) c7)))
    clear hn7 hk7 hb7 e7 HM3 HD7 HD3 g2
    have c0 := HM7.out.row.cell 0 rfl
    have c1 := HM7.out.row.cell 1 rfl
    have c2 := HM7.out.row.cell 2 rfl
    have z0 := HM7.out.res.cell 0 rfl
    have z1 := HM7.out.res.cell 1 rfl
    have z2 := HM7.out.res.cell 2 rfl
    have f0 := HM7.out.res.free 0
    have f1 := HM7.out.res.free 1
    have f2 := HM7.out.res.free 2
    have HF := Lib.hid (HM7.out.done HD8.out HC.out (Nat.le_refl _) (by omega))
    clear HM7 HD8
    go_wp2
    try simp only [Exit.inBlock, Exit.then]
    exact bodyPost_ret (results_cell_row rfl _ _ w.heap.size 25 _ (0, 0) _ rfl HF.out.1 Try.underlying25 rfl (by kernel_rfl)) rfl ⟨s, n, _, L ++ [[120]], rfl, by have := HSZ.out; omega, by omega, by omega, HF.out.2.1, by simp; omega, HF.out.2.2.1, HF.out.2.2.2.more (by omega)⟩
  · go_wp2_with fail
    refine (among_any (fun n => 2 ≤ n ∧ n ≤ 9) b a len cap _ 3 w3.heap.size 3 (fun i => [2, 9, 5].getD i 0) (by omega) (by omega) (by omega) _ (HD3.out.cur.below ((Below.refl _ _).alloc (Nat.le_refl _) _)) (by have := HD3.out.cur.lt; omega) (fun i hi => ⟨?_, ?_⟩)).mono ?_
    · have : i = 0 ∨ i = 1 ∨ i = 2 := by omega
      rcases this with rfl | rfl | rfl <;> decide
    · have := list_cells w3 [2, 9, 5] 3 i hi
      simpa using this
    rintro e w4 ⟨n4, hn4, rfl, hc4, ho4⟩
    have HN4 := Lib.hid hn4
    have ho4' := (Only.of_below (b := b) ((Below.refl w3.heap.size w3).alloc (Nat.le_refl _) (.cells #[.int .i64 2, .int .i64 9, .int .i64 5] 3))).trans ho4
    have HD4 := Lib.hid (HD3.out.call hc4 ho4')
    have HM4 := Lib.hid (HM3.out.call ho4' hlt (by omega) (by omega))
    clear hc4 ho4 ho4' HM3 HD3 hn4
    have g1 := HM4.out.row.cell 1 rfl
    have e1 := HM4.out.row.free 1
    have HM5 := Lib.hid (HM4.out.stage n4 (by omega))
    have HD5 := Lib.hid (HD4.out.below HC.out ((Below.refl w.heap.size w4).setCell (by show w.heap.size ≤ w1.heap.size; exact HMB.out) (p := ⟨w1.heap.size, 1, none⟩) (.int .i64 n4)))
    clear HM4 HD4
    have c0 := HM5.out.row.cell 0 rfl
    have c1 := HM5.out.row.cell 1 rfl
    have c2 := HM5.out.row.cell 2 rfl
    have z0 := HM5.out.res.cell 0 rfl
    have z1 := HM5.out.res.cell 1 rfl
    have z2 := HM5.out.res.cell 2 rfl
    have f0 := HM5.out.res.free 0
    have f1 := HM5.out.res.free 1
    have f2 := HM5.out.res.free 2
    have HF := Lib.hid (HM5.out.done HD5.out HC.out (Nat.le_refl _) (by omega))
    clear HM5 HD5
    go_wp2
    try simp only [Exit.inBlock, Exit.then]
    exact bodyPost_ret (results_cell_row rfl _ _ w.heap.size 25 _ (0, 0) _ rfl HF.out.1 Try.underlying25 rfl (by kernel_rfl)) rfl ⟨s, n4, _, L, rfl, by have := HSZ.out; omega, HN4.out.1, HN4.out.2, HF.out.2.1, by omega, HF.out.2.2.1, HF.out.2.2.2.more (by omega)⟩
  · have g2 := HM3.out.row.cell 2 rfl
    have e2 := HM3.out.row.free 2
    have HM5 := Lib.hid (Mt.put (L := []) HM3.out.res HM3.out.row (by omega) (New.nil w.heap.size w3 _) (by simp))
    have HD5 := Lib.hid (HD3.out.below HC.out ((Below.refl w.heap.size w3).setCell (by show w.heap.size ≤ w1.heap.size; exact HMB.out) (p := ⟨w1.heap.size, 2, none⟩) (.slice none 0 0)))
    clear HM3 HD3
    have c0 := HM5.out.row.cell 0 rfl
    have c1 := HM5.out.row.cell 1 rfl
    have c2 := HM5.out.row.cell 2 rfl
    have z0 := HM5.out.res.cell 0 rfl
    have z1 := HM5.out.res.cell 1 rfl
    have z2 := HM5.out.res.cell 2 rfl
    have f0 := HM5.out.res.free 0
    have f1 := HM5.out.res.free 1
    have f2 := HM5.out.res.free 2
    have HF := Lib.hid (HM5.out.done HD5.out HC.out (Nat.le_refl _) (by omega))
    clear HM5 HD5
    go_wp2
    try simp only [Exit.inBlock, Exit.then]
    exact bodyPost_ret (results_cell_row rfl _ _ w.heap.size 25 _ (0, 0) _ rfl HF.out.1 Try.underlying25 rfl (by kernel_rfl)) rfl ⟨s, n, _, [], rfl, by have := HSZ.out; omega, by omega, by omega, HF.out.2.1, by simp, HF.out.2.2.1, HF.out.2.2.2.more (by omega)⟩
  · go_wp2_with fail
    refine (pick_any b a len cap _ 2 (by omega) (by omega) (by omega) _ HD3.out.cur).mono ?_
    rintro e w5 ⟨y, hy, rfl, hc5, ho5⟩
    have HD5 := Lib.hid (HD3.out.call hc5 ho5)
    have HM5 := Lib.hid (HM3.out.call ho5 hlt (by omega) (by omega))
    have hyi : (y : Int) < 2 := by omega
    clear hc5 ho5 HM3 HD3
    have HSL := Lib.hid hL
    clear hL
    go_wp2_with fail
    go_loopg [] (40 + y - L.length) (fun q wr => ∃ (v : Value) (H : List (List Nat)) (mm : Nat), Mt w.heap.size w1.heap.size s n w.heap.size v H wr ∧ Dr b a len cap mm w wr ∧ H.length + q = 40 + y ∧ mm + 2 * q ≤ m + 300)
    case atStart => exact ⟨_, L, _, HM5.out, HD5.out, by have := HSL.out; omega, by omega⟩
    case round =>
      obtain ⟨v, H, mm, hmt, hdr, hL8, hmm⟩ := hrel
      have HM9 := Lib.hid hmt
      have HD9 := Lib.hid hdr
      clear hmt hdr HM5 HD5
      obtain ⟨ao, co, hov, -⟩ := HM9.out.new.own.view
      rw [strs_len] at hov
      subst hov
      by_cases hg : 0 < gk
      · obtain ⟨g', hg'⟩ : ∃ g', gk = g' + 1 := ⟨gk - 1, by omega⟩
        subst hg'
        have hli : (H.length : Int) < 40 + (y : Int) := by omega
        have g2 := HM9.out.row.cell 2 rfl
        go_wp2_with fail
        have HMX := Lib.hid HM9.out.drew
        have HDX := Lib.hid (HD9.out.more (Nat.le_add_right _ 2)).drew
        have c1 := HMX.out.row.cell 1 rfl
        have c2 := HMX.out.row.cell 2 rfl
        have f2 := HMX.out.row.free 2
        have HCH := Lib.hid (change_draw b a len cap mm n (by omega) (by omega) (by omega) _ HD9.out.drew.cur)
        clear HM9 HD9 g2
        go_region_law (first | (go_simp; go_at_call 159; refine HCH.out.mono ?_; rintro e5 w5 ⟨l5, hl5, rfl, hc5, ho5⟩; have HMY := Lib.hid (HMX.out.call ho5 hlt (by omega) (by omega)); have HDY := Lib.hid (HDX.out.call hc5 ho5); have d2 := HMY.out.row.cell 2 rfl; have e2 := (HMY.out.alloc (.cells #[.string (txt l5)] 9)).row.cell 2 rfl) | (refine step_app1 rfl (.tmp 42) (.tmp 47) 23 rfl 9 i0 (.string ⟨#[]⟩) 16 Try.underlying23 I0.out.1 I0.out.2.1 I0.out.2.2.1 I0.out.2.2.2 rfl w.heap.size _ (strs H) rfl HMY.out.new rfl rfl HDY.out.only.size (by rw [strs_len]; omega) (by omega) ?_; intro v6 w6 hn6 hk6 hb6; obtain ⟨a6, c6, hv6, -⟩ := hn6.own.view; rw [show (strs H ++ [Value.string (txt l5)]).length = (strs H).length + 1 by simp] at hv6; subst hv6; have cz := (hk6.row HMY.out.row (HMY.out.new.apartRow HMY.out.row (by decide))).cell 2 rfl; have fz := (hk6.row HMY.out.row (HMY.out.new.apartRow HMY.out.row (by decide))).free 2) | fail)
        all_goals
          have HMN := Lib.hid (HMY.out.app (by omega) (txt_len (by omega) (by omega) hl5) hn6 hk6)
          have HDN := Lib.hid (HDY.out.below HC.out (show Below w.heap.size w5 (w6.setCell ⟨w1.heap.size, 2, none⟩ (.slice a6 ((strs H).length + 1) c6)) from (hb6.mono (Nat.le_refl _)).setCell (by show w.heap.size ≤ w1.heap.size; exact HMB.out) _))
          clear hn6 hk6 hb6 hc5 ho5 HMY HDY HMX HDX c1 c2 f2 d2 e2 cz fz
          go_wp2
          go_roundg g'
          case measure => omega
          case rel => exact ⟨_, H ++ [l5], mm + 2, HMN.out, HDN.out, by simp; omega, by omega⟩
      · obtain rfl : gk = 0 := by omega
        have hli : ¬ ((H.length : Int) < 40 + (y : Int)) := by omega
        have g2 := HM9.out.row.cell 2 rfl
        have c0 := HM9.out.row.cell 0 rfl
        have c1 := HM9.out.row.cell 1 rfl
        have c2 := HM9.out.row.cell 2 rfl
        have z0 := HM9.out.res.cell 0 rfl
        have z1 := HM9.out.res.cell 1 rfl
        have z2 := HM9.out.res.cell 2 rfl
        have f0 := HM9.out.res.free 0
        have f1 := HM9.out.res.free 1
        have f2 := HM9.out.res.free 2
        have HF := Lib.hid (HM9.out.done HD9.out HC.out (Nat.le_refl _) (by omega))
        clear HM9 HD9
        go_wp2
        try simp only [Exit.inBlock, Exit.then]
        exact bodyPost_ret (results_cell_row rfl _ _ w.heap.size 25 _ (0, 0) _ rfl HF.out.1 Try.underlying25 rfl (by kernel_rfl)) rfl ⟨s, n, _, H, rfl, by have := HSZ.out; omega, by omega, by omega, HF.out.2.1, by omega, HF.out.2.2.1, HF.out.2.2.2.more (by omega)⟩
  · have q0 : ((x : Int) == 0) = false := by rw [beq_eq_false_iff_ne]; omega
    have q1 : ((x : Int) == 1) = false := by rw [beq_eq_false_iff_ne]; omega
    have q2 : ((x : Int) == 2) = false := by rw [beq_eq_false_iff_ne]; omega
    have q3 : ((x : Int) == 3) = false := by rw [beq_eq_false_iff_ne]; omega
    have q4 : ((x : Int) == 4) = false := by rw [beq_eq_false_iff_ne]; omega
    have c0 := HM3.out.row.cell 0 rfl
    have c1 := HM3.out.row.cell 1 rfl
    have c2 := HM3.out.row.cell 2 rfl
    have z0 := HM3.out.res.cell 0 rfl
    have z1 := HM3.out.res.cell 1 rfl
    have z2 := HM3.out.res.cell 2 rfl
    have f0 := HM3.out.res.free 0
    have f1 := HM3.out.res.free 1
    have f2 := HM3.out.res.free 2
    have HF := Lib.hid (HM3.out.done HD3.out HC.out (Nat.le_refl _) (by omega))
    clear HM3 HD3
    go_wp2
    try simp only [Exit.inBlock, Exit.then]
    exact bodyPost_ret (results_cell_row rfl _ _ w.heap.size 25 _ (0, 0) _ rfl HF.out.1 Try.underlying25 rfl (by kernel_rfl)) rfl ⟨s, n, _, L, rfl, by have := HSZ.out; omega, by omega, by omega, HF.out.2.1, by omega, HF.out.2.2.1, HF.out.2.2.2.more (by omega)⟩
end Go.Proofs.Ytkhglknpcajmiaa
