/- PathOf and PlaceBells in the program. -/
import Derived.Test.YtpfnamiacagocaaE8
namespace Go.Proofs.Ytpfnamiacagocaa
open Go.RowKit
set_option linter.unusedSimpArgs false
set_option linter.unusedVariables false

/-- the path asked for, and the place bells -/
def pathL (s : ByteArray) (n : Int) (L : List (List Nat)) (b : Int) : List Nat := if askB s n L b = true then pathF n.toNat (chR n L) (rdf n.toNat) b.toNat else []
/-- the first k place bells from bell b on -/
def bellsK (n : Nat) (h : Nat → Nat) (b k : Nat) : List Nat := (List.range k).map fun j => orb n (invF n h) (b - 1) j + 1
noncomputable def bellsF (n : Nat) (h : Nat → Nat) (b : Nat) : List Nat := bellsK n h b (perN n (invF n h) (b - 1))
noncomputable def bellsL (s : ByteArray) (n : Int) (L : List (List Nat)) (b : Int) : List Nat := if askB s n L b = true then bellsF n.toNat (headF n.toNat (chR n L)) b.toNat else []
theorem ints_cyc (n : Nat) (h : Nat → Nat) (b : Nat) : ints (cyc n (invF n h) (b - 1)) = nums (bellsF n h b) := by
  unfold cyc cycTo bellsF bellsK nums ints
  rw [List.map_map, List.map_map, List.map_map]
  rfl

set_option maxRecDepth 100000 in
set_option maxHeartbeats 1000000 in
theorem placeBells_any (n : Nat) (u : Value) (cs : List (Nat → Nat)) (f : Nat → Nat) (hf : IsRow n f) (hc : Rows n cs) (hl : cs.length ≤ 40) (b : Nat) (h1 : 1 ≤ b) (hb : b ≤ n) (w : World) (h : NewD 0 w u cs) :
    Calls Try.prog 82 #[.agg (leadV u f), .int .i64 b] w (NumsOut (bellsF n (endF n cs f) b) w) := by
  obtain ⟨a, cap, hu, hcap, ha⟩ := h.view rfl
  have hh := isRow_end hc hf
  have HHD := Lib.hid (fun w h => head_any n u cs f hf hc hl w h)
  have HIN := Lib.hid (fun w => inverse_any n _ hh w)
  have HCY := Lib.hid (fun w => cycleFrom_any n _ (isRow_inv hh) (b - 1) (by omega) w)
  rw [show (((b - 1 : Nat) : Int) + 1) = (b : Int) by omega] at HCY
  unfold Cycle at HCY
  unfold NumsOut
  have HD := Lib.hid h.digs
  have HRES : Hid (ints (cyc n (invF n (endF n cs f)) (b - 1)) = nums (bellsF n (endF n cs f) b)) := Lib.hid (ints_cyc n (endF n cs f) b)
  have HR0 := Lib.hid (RowAt.new w 70 (leadV u f))
  have HB0 := Lib.hid ((Below.refl _ w).alloc (Nat.le_refl _) (.cells (leadV u f) 70))
  generalize bellsF n (endF n cs f) b = res at *
  generalize cyc n (invF n (endF n cs f)) (b - 1) = cy at *
  generalize invF n (endF n cs f) = fi at *
  generalize endF n cs f = fe at *
  subst hu
  generalize cs.length = m at *
  clear h ha hcap hf hc hl hh
  simp only [leadV] at *
  go_enter Try.func82, Try.ntmps82
  go_wp2_with (first | (refine wpList_load_row rfl 70 _ rfl _ rfl 70 _ _ _ (HR0.out) Try.underlying70 rfl (by kernel_rfl) ?_) | fail)
  refine (HHD.out _ (HD.out.kept HB0.out)).mono ?_
  rintro e w1 ⟨rfl, hb1⟩
  have HB1 := Lib.hid (HB0.out.trans (hb1.mono HB0.out.size))
  clear hb1
  go_wp2_with fail
  refine (HIN.out _).mono ?_
  rintro e w2 ⟨rfl, hb2⟩
  have HB2 := Lib.hid (HB1.out.trans (hb2.mono HB1.out.size))
  clear hb2
  go_wp2_with fail
  refine (HCY.out _).mono ?_
  rintro e w3 ⟨v3, rfl, hn3, hb3⟩
  have HB3 := Lib.hid (HB2.out.trans (hb3.mono HB2.out.size))
  have HN3 : Hid (New w.heap.size w3 3 v3 (nums res)) := Lib.hid (by
    rw [← HRES.out]
    exact ⟨hn3.1, fun g hg => Nat.le_trans HB2.out.size (hn3.2 g hg)⟩)
  clear hb3 hn3
  go_wp2
  go_ret
  exact ⟨_, rfl, HN3.out, HB3.out⟩

set_option maxRecDepth 100000 in
set_option maxHeartbeats 1000000 in
theorem iPathOf_any (s : ByteArray) (hs : s.size ≤ maxLen) (n : Int) (v : Value) (L : List (List Nat)) (b : Int) (w : World) (h : Txts w v L) (hl : L.length ≤ 2000000) :
    Calls Try.prog 23 #[.agg #[.string s, .int .i64 n, v], .int .i64 b] w (NumsAny (pathL s n L b) (askB s n L b) w) := by
  obtain ⟨a, cap, rfl, hcap, -⟩ := id h
  have HT := Lib.hid h
  have HR0 := Lib.hid (RowAt.new w 26 #[.string s, .int .i64 n, .slice a L.length cap])
  have HB0 := Lib.hid ((Below.refl _ w).alloc (Nat.le_refl _) (.cells #[.string s, .int .i64 n, .slice a L.length cap] 26))
  have HC := Lib.hid (fun w h => leadWith_any s hs n (.slice a L.length cap) L b w h hl)
  unfold WithAny at HC
  unfold pathL
  have hask := fun (h : askB s n L b = true) => askB_yes h
  generalize hab : askB s n L b = ab at *
  clear h hcap hl hs hab
  cases ab
  · clear hask
    rw [if_neg Bool.false_ne_true]
    generalize L.length = m at *
    generalize chR n L = cs at *
    go_enter Try.func23, Try.ntmps23
    go_wp2_with (first | (refine wpList_load_row rfl 26 _ rfl _ rfl 26 _ _ _ (HR0.out) Try.underlying26 rfl (by kernel_rfl) ?_) | fail)
    refine (HC.out _ (HT.out.kept HB0.out)).mono ?_
    rintro e w1 ⟨a1, m1, c1, f1, rfl, -, hb1⟩
    have HB1 := Lib.hid (HB0.out.trans (hb1.mono HB0.out.size))
    have HB2 := Lib.hid (HB1.out.alloc HB1.out.size (.cells (leadV (.slice a1 m1 c1) f1) 70))
    clear hb1 HC
    simp only [leadV] at HB2 ⊢
    go_wp2_with (first | (refine wpList_store_row rfl 70 _ _ rfl _ _ rfl rfl 70 _ (heap_at _ _ _ (by simp)) (by kernel_rfl) rfl (by kernel_rfl) ?_; rw [setRow_at _ _ _ _ _ (by simp)]) | fail)
    go_ret2
    exact ⟨_, rfl, New.nil _ _ _, HB2.out⟩
  · obtain ⟨hg, h1, h2⟩ := hask rfl
    have hr := goodAll_range (goodM_parts hg).1
    obtain ⟨n, rfl⟩ := Int.eq_ofNat_of_zero_le (show 0 ≤ n by omega)
    obtain ⟨b, rfl⟩ := Int.eq_ofNat_of_zero_le (show 0 ≤ b by omega)
    obtain ⟨h3, h8, hrows, h40, -⟩ := goodM_nat hg
    have h1 : 1 ≤ b := by omega
    have h2 : b ≤ n := by omega
    have hrd := isRow_rdf h3 h8
    have HG := Lib.hid (fun u w (h : NewD 0 w u (chR n L)) => path_any n u (chR n L) (rdf n) hrd hrows h40 b h1 h2 w h)
    unfold NumsOut at HG
    rw [if_pos rfl]
    simp only [Int.toNat_natCast]
    generalize pathF n (chR n L) (rdf n) b = res at *
    generalize chR n L = cs at *
    generalize L.length = m at *
    clear hask hg hr h3 h8 hrows h40 h1 h2 hrd
    simp only [Int.toNat_natCast] at HC
    generalize rdf n = f0 at *
    go_enter Try.func23, Try.ntmps23
    go_wp2_with (first | (refine wpList_load_row rfl 26 _ rfl _ rfl 26 _ _ _ (HR0.out) Try.underlying26 rfl (by kernel_rfl) ?_) | fail)
    refine (HC.out _ (HT.out.kept HB0.out)).mono ?_
    rintro e w1 ⟨a1, m1, c1, f1, rfl, hn1, hb1⟩
    obtain ⟨rfl, hnn⟩ := hn1 trivial
    have HB1 := Lib.hid (HB0.out.trans (hb1.mono HB0.out.size))
    have HL2 := Lib.hid (RowAt.new w1 70 (leadV (.slice a1 m1 c1) f1))
    have HB2 := Lib.hid (HB1.out.alloc HB1.out.size (.cells (leadV (.slice a1 m1 c1) f1) 70))
    have HN2 := Lib.hid ((hnn.kept ((Below.refl _ _).alloc (Nat.le_refl _) (.cells (leadV (.slice a1 m1 c1) f1) 70))).lower (Nat.zero_le _))
    clear hn1 hnn hb1 HC HB0 HB1
    simp only [leadV] at HL2 HB2 HN2 HG ⊢
    go_wp2_with (first | (refine wpList_store_row rfl 70 _ _ rfl _ _ rfl rfl 70 _ (heap_at _ _ _ (by simp)) (by kernel_rfl) rfl (by kernel_rfl) ?_; rw [setRow_at _ _ _ _ _ (by simp)]) | (refine wpList_load_row rfl 70 _ rfl _ rfl 70 _ _ _ (HL2.out) Try.underlying70 rfl (by kernel_rfl) ?_) | fail)
    refine (HG.out _ _ HN2.out).mono ?_
    rintro e w3 ⟨v3, rfl, hn3, hb3⟩
    have HB3 := Lib.hid (HB2.out.trans (hb3.mono HB2.out.size))
    have HN3 := Lib.hid (hn3.lower HB2.out.size)
    clear hb3 hn3
    go_wp2
    go_ret2
    exact ⟨_, rfl, HN3.out, HB3.out⟩

set_option maxRecDepth 100000 in
set_option maxHeartbeats 1000000 in
theorem iPlaceBells_any (s : ByteArray) (hs : s.size ≤ maxLen) (n : Int) (v : Value) (L : List (List Nat)) (b : Int) (w : World) (h : Txts w v L) (hl : L.length ≤ 2000000) :
    Calls Try.prog 32 #[.agg #[.string s, .int .i64 n, v], .int .i64 b] w (NumsAny (bellsL s n L b) (askB s n L b) w) := by
  obtain ⟨a, cap, rfl, hcap, -⟩ := id h
  have HT := Lib.hid h
  have HR0 := Lib.hid (RowAt.new w 26 #[.string s, .int .i64 n, .slice a L.length cap])
  have HB0 := Lib.hid ((Below.refl _ w).alloc (Nat.le_refl _) (.cells #[.string s, .int .i64 n, .slice a L.length cap] 26))
  have HC := Lib.hid (fun w h => leadWith_any s hs n (.slice a L.length cap) L b w h hl)
  unfold WithAny at HC
  unfold bellsL
  have hask := fun (h : askB s n L b = true) => askB_yes h
  generalize hab : askB s n L b = ab at *
  clear h hcap hl hs hab
  cases ab
  · clear hask
    rw [if_neg Bool.false_ne_true]
    generalize L.length = m at *
    generalize chR n L = cs at *
    go_enter Try.func32, Try.ntmps32
    go_wp2_with (first | (refine wpList_load_row rfl 26 _ rfl _ rfl 26 _ _ _ (HR0.out) Try.underlying26 rfl (by kernel_rfl) ?_) | fail)
    refine (HC.out _ (HT.out.kept HB0.out)).mono ?_
    rintro e w1 ⟨a1, m1, c1, f1, rfl, -, hb1⟩
    have HB1 := Lib.hid (HB0.out.trans (hb1.mono HB0.out.size))
    have HB2 := Lib.hid (HB1.out.alloc HB1.out.size (.cells (leadV (.slice a1 m1 c1) f1) 70))
    clear hb1 HC
    simp only [leadV] at HB2 ⊢
    go_wp2_with (first | (refine wpList_store_row rfl 70 _ _ rfl _ _ rfl rfl 70 _ (heap_at _ _ _ (by simp)) (by kernel_rfl) rfl (by kernel_rfl) ?_; rw [setRow_at _ _ _ _ _ (by simp)]) | fail)
    go_ret2
    exact ⟨_, rfl, New.nil _ _ _, HB2.out⟩
  · obtain ⟨hg, h1, h2⟩ := hask rfl
    have hr := goodAll_range (goodM_parts hg).1
    obtain ⟨n, rfl⟩ := Int.eq_ofNat_of_zero_le (show 0 ≤ n by omega)
    obtain ⟨b, rfl⟩ := Int.eq_ofNat_of_zero_le (show 0 ≤ b by omega)
    obtain ⟨h3, h8, hrows, h40, -⟩ := goodM_nat hg
    have h1 : 1 ≤ b := by omega
    have h2 : b ≤ n := by omega
    have hrd := isRow_rdf h3 h8
    have HG : Hid (∀ u w, NewD 0 w u (chR n L) → Calls Try.prog 82 #[.agg (leadV u (rdf n)), .int .i64 b] w (NumsOut (bellsF n (headF n (chR n L)) b) w)) := Lib.hid (fun u w (h : NewD 0 w u (chR n L)) => placeBells_any n u (chR n L) (rdf n) hrd hrows h40 b h1 h2 w h)
    unfold NumsOut at HG
    rw [if_pos rfl]
    simp only [Int.toNat_natCast]
    generalize bellsF n (headF n (chR n L)) b = res at *
    generalize chR n L = cs at *
    generalize L.length = m at *
    clear hask hg hr h3 h8 hrows h40 h1 h2 hrd
    simp only [Int.toNat_natCast] at HC
    generalize rdf n = f0 at *
    go_enter Try.func32, Try.ntmps32
    go_wp2_with (first | (refine wpList_load_row rfl 26 _ rfl _ rfl 26 _ _ _ (HR0.out) Try.underlying26 rfl (by kernel_rfl) ?_) | fail)
    refine (HC.out _ (HT.out.kept HB0.out)).mono ?_
    rintro e w1 ⟨a1, m1, c1, f1, rfl, hn1, hb1⟩
    obtain ⟨rfl, hnn⟩ := hn1 trivial
    have HB1 := Lib.hid (HB0.out.trans (hb1.mono HB0.out.size))
    have HL2 := Lib.hid (RowAt.new w1 70 (leadV (.slice a1 m1 c1) f1))
    have HB2 := Lib.hid (HB1.out.alloc HB1.out.size (.cells (leadV (.slice a1 m1 c1) f1) 70))
    have HN2 := Lib.hid ((hnn.kept ((Below.refl _ _).alloc (Nat.le_refl _) (.cells (leadV (.slice a1 m1 c1) f1) 70))).lower (Nat.zero_le _))
    clear hn1 hnn hb1 HC HB0 HB1
    simp only [leadV] at HL2 HB2 HN2 HG ⊢
    go_wp2_with (first | (refine wpList_store_row rfl 70 _ _ rfl _ _ rfl rfl 70 _ (heap_at _ _ _ (by simp)) (by kernel_rfl) rfl (by kernel_rfl) ?_; rw [setRow_at _ _ _ _ _ (by simp)]) | (refine wpList_load_row rfl 70 _ rfl _ rfl 70 _ _ _ (HL2.out) Try.underlying70 rfl (by kernel_rfl) ?_) | fail)
    refine (HG.out _ _ HN2.out).mono ?_
    rintro e w3 ⟨v3, rfl, hn3, hb3⟩
    have HB3 := Lib.hid (HB2.out.trans (hb3.mono HB2.out.size))
    have HN3 := Lib.hid (hn3.lower HB2.out.size)
    clear hb3 hn3
    go_wp2
    go_ret2
    exact ⟨_, rfl, HN3.out, HB3.out⟩
end Go.Proofs.Ytpfnamiacagocaa
