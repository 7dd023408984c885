/- WorkText in the model; its law. -/
import Derived.Test.YtpfnamiacagocaaZ5
import Derived.Test.YtpfnamiacagocaaE11
namespace Go.Proofs.Ytpfnamiacagocaa
open Go.RowKit
set_option linter.unusedSimpArgs false
set_option linter.unusedVariables false

def signs : ByteArray := ⟨#[92, 61, 47]⟩
theorem sign_of {x0 x1 : Nat} (h1 : x0 ≤ x1 + 1) (h2 : x1 ≤ x0 + 1) : ∃ k : Nat, k ≤ 2 ∧ 1 + (x1 : Int) - x0 = k ∧ signs.extract k (k + 1) = ⟨#[UInt8.ofNat (stepN x0 x1)]⟩ := by
  unfold stepN
  by_cases a : x0 < x1
  · exact ⟨2, by omega, by omega, by rw [if_pos a]; rfl⟩
  · by_cases b : x1 < x0
    · exact ⟨0, by omega, by omega, by rw [if_neg a, if_pos b]; rfl⟩
    · exact ⟨1, by omega, by omega, by rw [if_neg a, if_neg b]; rfl⟩

set_option maxRecDepth 100000 in
set_option maxHeartbeats 1000000 in
theorem sWorkText_any (s : ByteArray) (hs : s.size ≤ maxLen) (n : Int) (v : Value) (L : List (List Nat)) (b : Int) (w : World) (h : Txts w v L) (hl : L.length ≤ 2000000) (hsm : Small L) :
    Calls Try.prog 30 #[.agg #[.string s, .int .i64 n, v], .int .i64 b] w fun e w' => e = .returned (.tuple #[.string (workS s n L b), .bool (askB s n L b)]) ∧ Below w.heap.size w w' := by
  obtain ⟨a, cap, rfl, hcap, -⟩ := id h
  have HT := Lib.hid h
  have HR0 := Lib.hid (RowAt.new w 26 #[.string s, .int .i64 n, .slice a L.length cap])
  have HB0 := Lib.hid ((Below.refl _ w).alloc (Nat.le_refl _) (.cells #[.string s, .int .i64 n, .slice a L.length cap] 26))
  have HC := Lib.hid (fun w h => l5Asked_any s hs n (.slice a L.length cap) L b w h hl hsm)
  unfold workS
  have hask := fun (h : askB s n L b = true) => askB_yes h
  have hpath : askB s n L b = true → pathL s n L b = pathF n.toNat (chR n L) (rdf n.toNat) b.toNat := fun h => by unfold pathL; rw [if_pos h]
  generalize pathL s n L b = xs at *
  generalize hab : askB s n L b = ab at *
  clear h hcap hl hs hab hsm
  cases ab
  · clear hask hpath
    rw [if_neg Bool.false_ne_true]
    generalize L.length = m at *
    go_enter Try.func30, Try.ntmps30
    go_wp2_with (first | (refine wpList_load_row rfl 26 _ rfl _ rfl 26 _ _ _ (HR0.out) Try.underlying26 rfl (by kernel_rfl) ?_) | fail)
    refine (HC.out _ (HT.out.kept HB0.out)).mono ?_
    rintro e w1 ⟨rfl, hb1⟩
    have HB1 := Lib.hid (HB0.out.trans (hb1.mono HB0.out.size))
    go_wp2
    go_ret2
    exact ⟨rfl, HB1.out⟩
  · obtain ⟨hg, h1, h2⟩ := hask rfl
    have hpath := hpath rfl
    obtain ⟨n, rfl⟩ := good_cast hg
    obtain ⟨b, rfl⟩ := Int.eq_ofNat_of_zero_le (show 0 ≤ b by omega)
    obtain ⟨h3, h8, hrows, h40, h41⟩ := goodM_nat hg
    have h1 : 1 ≤ b := by omega
    have h2 : b ≤ n := by omega
    have h40' := h40
    rw [chR_len] at h40'
    have hrd := isRow_rdf h3 h8
    simp only [Int.toNat_natCast] at hpath
    have HG := Lib.hid (fun w h => l5Path_any s n (.slice a L.length cap) L (goodM_parts hg).1 h40' b h1 h2 w h)
    have hst := path_steps h1 h2 (chR n L) (rdf n) hrd hrows (chR_near (goodM_parts hg).1)
    have hmem := pathF_mem hrows hrd h1 h2
    have hpl := pathF_len n (chR n L) (rdf n) b
    rw [← hpath] at HG hst hmem hpl
    unfold NumsOut at HG
    rw [if_pos rfl]
    generalize (chR (n : Int) L).length = c at *
    have hci : (c : Int) ≤ 40 := by omega
    have hci1 : (1 : Int) ≤ c := by omega
    have HPL := Lib.hid hpl
    have HST := Lib.hid hst
    have HM8 : Hid (∀ i, xs.getD i 0 ≤ 8) := Lib.hid (fun i => by
      by_cases hi : i < xs.length
      · have := hmem _ (List.getElem_mem hi)
        rw [List.getD_eq_getElem?_getD, List.getElem?_eq_getElem hi]
        show xs[i] ≤ 8
        omega
      · rw [List.getD_eq_getElem?_getD, List.getElem?_eq_none (by omega)]
        show 0 ≤ 8
        omega)
    generalize hres : strOf c (workF xs) = res
    have HRES := Lib.hid hres
    generalize L.length = m at *
    clear hask hg hrows h3 h8 h40 h41 h40' hrd hpath hst hmem hpl hres h1 h2
    go_enter Try.func30, Try.ntmps30
    go_wp2_with (first | (refine wpList_load_row rfl 26 _ rfl _ rfl 26 _ _ _ (HR0.out) Try.underlying26 rfl (by kernel_rfl) ?_) | fail)
    refine (HC.out _ (HT.out.kept HB0.out)).mono ?_
    rintro e w1 ⟨rfl, hb1⟩
    have HB1 := Lib.hid (HB0.out.trans (hb1.mono HB0.out.size))
    have HR1 := Lib.hid (HR0.out.kept hb1)
    clear hb1 HC HB0 HR0
    go_wp2_with (first | (refine wpList_load_row rfl 26 _ rfl _ rfl 26 _ _ _ (HR1.out) Try.underlying26 rfl (by kernel_rfl) ?_) | fail)
    refine (HG.out _ (HT.out.kept HB1.out)).mono ?_
    rintro e w3 ⟨v3, rfl, hn3, hb3⟩
    have HB3 := Lib.hid (HB1.out.trans (hb3.mono HB1.out.size))
    have HV3 := Lib.hid hn3.own
    obtain ⟨a3, c3, hv3, ha3⟩ := hn3.own.view
    rw [nums_len, HPL.out] at hv3 ha3
    obtain ⟨g3, rfl⟩ := ha3 (by omega)
    subst hv3
    clear hn3 hb3 ha3 HG HR1
    have hsig : (⟨#[92, 61, 47]⟩ : ByteArray) = signs := rfl
    go_wp2
    go_loopg [7, 8] c (fun q t x wr => ∃ (j d : Nat), q + j = c ∧ x = .int .i64 ((j : Int) + 1) ∧ t = .string (strOf j (workF xs)) ∧ wr = w3.drewN d)
    case atStart => exact ⟨0, 0, by omega, rfl, rfl, rfl⟩
    case round =>
      obtain ⟨j, d, hq, rfl, rfl, rfl⟩ := hrel
      by_cases hlt : j < c
      · obtain ⟨q', rfl⟩ : ∃ q', gk = q' + 1 := ⟨gk - 1, by omega⟩
        have hji : (j : Int) < c := by omega
        have hjx : j + 1 < xs.length := by rw [HPL.out]; omega
        have hat : ∀ i, i < xs.length → (nums xs)[i]? = some (.int .i64 (xs.getD i 0 : Nat)) := fun i hi => by simp [nums, ints, List.getD_eq_getElem?_getD, hi]
        have c5 : w3.cell? ⟨g3, j, none⟩ = some (.int .i64 (xs.getD j 0 : Nat)) := HV3.out.cell j _ (hat j (by omega))
        have c4 : w3.cell? ⟨g3, j + 1, none⟩ = some (.int .i64 (xs.getD (j + 1) 0 : Nat)) := HV3.out.cell (j + 1) _ (hat (j + 1) hjx)
        have hs := HST.out.at j hjx
        have m0 := HM8.out j
        have m1 := HM8.out (j + 1)
        have hw0 : workF xs j = stepN (xs.getD j 0) (xs.getD (j + 1) 0) := rfl
        obtain ⟨k, hk2, hke, hkx⟩ := sign_of hs.1 hs.2
        rw [← hw0] at hkx
        have hsn : strOf j (workF xs) ++ ⟨#[UInt8.ofNat (workF xs j)]⟩ = strOf (j + 1) (workF xs) := strOf_snoc j (workF xs) _ rfl
        have hz1 : (strOf j (workF xs)).size = j := strOf_size _ _
        have hz2 : (⟨#[UInt8.ofNat (workF xs j)]⟩ : ByteArray).size = 1 := rfl
        generalize (⟨#[UInt8.ofNat (workF xs j)]⟩ : ByteArray) = bs at *
        generalize xs.getD j 0 = x0 at *
        generalize xs.getD (j + 1) 0 = x1 at *
        generalize strOf j (workF xs) = tj at *
        obtain ⟨tj1, ht1⟩ : ∃ t, strOf (j + 1) (workF xs) = t := ⟨_, rfl⟩
        rw [ht1] at hsn
        have HT1 := Lib.hid ht1
        clear ht1
        have hz3 : signs.size = 3 := rfl
        clear hw0 hat hs
        have b0 : (0 : Int) ≤ (j : Int) := by omega
        have b1 : (j : Int) < (c : Int) + 1 := by omega
        have b2 : (0 : Int) ≤ (j : Int) + 1 := by omega
        have b3 : (j : Int) + 1 < (c : Int) + 1 := by omega
        have b4 : IntKind.i64.wrap ((j : Int) + 1 - 1) = (j : Int) := by rw [Int.add_sub_cancel]; exact Go.IntWalk.i64_in _ ⟨by omega, by omega⟩
        have b5 : IntKind.i64.wrap (1 + (x1 : Int)) = 1 + (x1 : Int) := Go.IntWalk.i64_in _ ⟨by omega, by omega⟩
        have b6 : IntKind.i64.wrap (1 + (x1 : Int) - x0) = (k : Int) := by rw [hke]; exact Go.IntWalk.i64_in _ ⟨by omega, by omega⟩
        have b7 : (k : Int) ≤ 2 := by omega
        go_wp2
        go_quiet (fail)
        go_wp2
        go_roundg q'
        case measure => omega
        case rel => exact ⟨j + 1, d + nq, by omega, by go_num, by rw [HT1.out], rfl⟩
      · obtain rfl : gk = 0 := by omega
        obtain rfl : j = c := by omega
        rw [HRES.out]
        go_wp2
        go_ret2
        exact ⟨rfl, below_drewN HB3.out _⟩

theorem bothWorkText (s : ByteArray) (hs : s.size ≤ maxLen) (n : Int) (L : List (List Nat)) (hl : L.length ≤ 2000000) (hsm : Small L) (r : Int) :
    ∃ (t : ByteArray) (b : Bool), (∀ u w, Txts w u L → Calls Try.prog 24 #[.agg #[.string s, .int .i64 n, u], .int .i64 r] w fun e w' => e = .returned (.tuple #[.string t, .bool b]) ∧ Below w.heap.size w w') ∧
      (∀ u w, Txts w u L → Calls Try.prog 30 #[.agg #[.string s, .int .i64 n, u], .int .i64 r] w fun e w' => e = .returned (.tuple #[.string t, .bool b]) ∧ Below w.heap.size w w') :=
  ⟨workS s n L r, askB s n L r, fun u w h => iWorkText_any s hs n u L r w h hl, fun u w h => sWorkText_any s hs n u L r w h hl hsm⟩

set_option maxRecDepth 100000 in
set_option maxHeartbeats 1000000 in
theorem lawWorkText (s : ByteArray) (n : Int) (v : Value) (ss : List ByteArray) (r : Int) (W : World) (hsz : s.size ≤ maxLen) (hA : Arg W v ss) (hy : ss.length ≤ maxLen ∧ ∀ t ∈ ss, t.size ≤ maxLen) :
    Calls Try.prog 12 #[.agg #[.string s, .int .i64 n, v], .int .i64 r] W fun e w' => e = .returned (.bool true) ∧ Below W.heap.size W w' := by
  obtain ⟨a, cap, rfl, -⟩ := id hA
  have HB : Hid (s.size ≤ 1048576 → ss.length ≤ 1048576 → (∀ t ∈ ss, t.size ≤ 1048576) → _) := Lib.hid (fun h1 h2 h3 => bothWorkText s (by simp only [maxLen]; omega) n (letss ss) (by rw [letss_len]; omega) (small_letss hy.2) r)
  have HSZ : Hid (∀ w, Arg w (.slice a ss.length cap) ss → Calls Try.prog 43 #[.agg #[.string s, .int .i64 n, .slice a ss.length cap], .int .i64 1048576] w _) := Lib.hid (fun w h => szMethod_any s hsz n (.slice a ss.length cap) ss w h hy.1 hy.2 1048576 (by omega) (by omega))
  have HTO : Hid (ss.length ≤ 1048576 → ∀ w, Arg w (.slice a ss.length cap) ss → Calls Try.prog 44 #[.agg #[.string s, .int .i64 n, .slice a ss.length cap]] w (MethOut s n (letss ss) w)) := Lib.hid (fun h2 w h => toMethod_any s n (.slice a ss.length cap) ss w h (by omega))
  have HLL := Lib.hid (letss_len ss)
  have HA := Lib.hid hA
  have HSS : Hid (ss.length = ss.length) := Lib.hid rfl
  have HR0 := Lib.hid (RowAt.new W 51 #[.string s, .int .i64 n, .slice a ss.length cap])
  have HB0 := Lib.hid ((Below.refl _ W).alloc (Nat.le_refl _) (.cells #[.string s, .int .i64 n, .slice a ss.length cap] 51))
  unfold MethOut at HTO
  generalize letss ss = L at *
  generalize hm : ss.length = m at *
  have HMM := Lib.hid hm
  clear hA hy hsz hm
  go_enter Try.func12, Try.ntmps12
  go_wp2_with (first | (refine wpList_load_row rfl 51 _ rfl _ rfl 51 _ _ _ (HR0.out) Try.underlying51 rfl (by kernel_rfl) ?_) | fail)
  refine (HSZ.out _ (HA.out.kept HB0.out)).mono ?_
  rintro e w1 ⟨z, rfl, hz0, hz1, hz2, hb1⟩
  have HR1 := Lib.hid (HR0.out.kept hb1)
  have HB1 := Lib.hid (HB0.out.trans (hb1.mono HB0.out.size))
  clear HR0 HB0 hb1 HSZ
  by_cases hneg : z < 0
  · clear hz2
    go_wp2
    go_ret
    exact ⟨rfl, HB1.out⟩
  have hz3 := hz2 (by omega)
  obtain ⟨hs1, hs2, hs3⟩ := hz3
  have hm2 : m ≤ 1048576 := by omega
  have HTO2 := Lib.hid (HTO.out hm2)
  have hboth := HB.out (by omega) (by omega) (fun t ht => by have := hs3 t ht; omega)
  clear HB HTO hz2 hs1 hs2 hs3
  obtain ⟨res, flag, hI, hS⟩ := hboth
  have HI := Lib.hid hI
  have HS := Lib.hid hS
  clear hI hS
  go_wp2_with (first | (refine wpList_load_row rfl 51 _ rfl _ rfl 51 _ _ _ (HR1.out) Try.underlying51 rfl (by kernel_rfl) ?_) | fail)
  refine (HTO2.out _ (HA.out.kept HB1.out)).mono ?_
  rintro e w2 ⟨v2, rfl, hn2, hb2⟩
  have HR2 := Lib.hid (HR1.out.kept hb2)
  have HB2 := Lib.hid (HB1.out.trans (hb2.mono HB1.out.size))
  have HT2 := Lib.hid hn2.own.txts
  clear HR1 HB1 hn2 hb2
  go_wp2_with fail
  refine (HS.out _ _ HT2.out).mono ?_
  rintro e w3 ⟨rfl, hb3⟩
  have HR3 := Lib.hid (HR2.out.kept hb3)
  have HB3 := Lib.hid (HB2.out.trans (hb3.mono HB2.out.size))
  clear HR2 HB2 hb3 HT2
  go_wp2_with (first | (refine wpList_load_row rfl 51 _ rfl _ rfl 51 _ _ _ (HR3.out) Try.underlying51 rfl (by kernel_rfl) ?_) | fail)
  refine (HTO2.out _ (HA.out.kept HB3.out)).mono ?_
  rintro e w4 ⟨v4, rfl, hn4, hb4⟩
  have HR4 := Lib.hid (HR3.out.kept hb4)
  have HB4 := Lib.hid (HB3.out.trans (hb4.mono HB3.out.size))
  have HN4 := Lib.hid hn4
  have HLT4 := Lib.hid hn4.own.lt
  obtain ⟨a4, k4, rfl, -⟩ := hn4.own.view
  rw [strs_len, HLL.out] at HN4 ⊢
  clear HR3 HB3 hn4 hb4
  go_wp2_with (first | (refine wpList_store_row rfl 26 _ _ rfl _ _ rfl rfl 26 _ (heap_alloc_new _ _) (by kernel_rfl) rfl (by kernel_rfl) ?_; rw [World.setRow_alloc_new]) | fail)
  have HX5 := Lib.hid (RowAt.new w4 26 #[.string s, .int .i64 n, .slice a4 m k4])
  have HR5 := Lib.hid (HR4.out.push (.cells #[.string s, .int .i64 n, .slice a4 m k4] 26))
  have HB5 := Lib.hid (HB4.out.alloc HB4.out.size (.cells #[.string s, .int .i64 n, .slice a4 m k4] 26))
  have HN5 := Lib.hid (HN4.out.kept ((Below.refl _ _).alloc (Nat.le_refl _) (.cells #[.string s, .int .i64 n, .slice a4 m k4] 26)))
  clear HR4 HB4 HN4
  refine (HI.out _ _ HN5.out.own.txts).mono ?_
  rintro e w6 ⟨rfl, hb6⟩
  have HX6 := Lib.hid (HX5.out.kept hb6)
  have HR6 := Lib.hid (HR5.out.kept hb6)
  have HB6 := Lib.hid (HB5.out.trans (hb6.mono HB5.out.size))
  have HN6 := Lib.hid (HN5.out.kept hb6)
  clear HX5 HR5 HB5 HN5 hb6
  go_wp2
  have hltx := HX6.out.lt
  have hltr := HR6.out.lt
  have HX6A : Hid (∀ W', Below w6.heap.size w6 W' → (W'.cell? ⟨w4.heap.size, 0, none⟩ = some (.string s) ∧ W'.cell? ⟨w4.heap.size, 1, none⟩ = some (.int .i64 n) ∧ W'.cell? ⟨w4.heap.size, 2, none⟩ = some (.slice a4 m k4) ∧ W'.cell? ⟨W.heap.size, 0, none⟩ = some (.string s) ∧ W'.cell? ⟨W.heap.size, 1, none⟩ = some (.int .i64 n) ∧ W'.cell? ⟨W.heap.size, 2, none⟩ = some (.slice a m cap) ∧ Below w6.heap.size w6 W')) := Lib.hid (fun W' h => by
    have hx := HX6.out.keep h hltx
    have hr := HR6.out.keep h hltr
    exact ⟨hx.cell 0 rfl, hx.cell 1 rfl, hx.cell 2 rfl, hr.cell 0 rfl, hr.cell 1 rfl, hr.cell 2 rfl, h⟩)
  have HTO7 : Hid (∀ W', Below w6.heap.size w6 W' → Calls Try.prog 44 #[.agg #[.string s, .int .i64 n, .slice a m cap]] W' fun e w' => (∃ a7 k7, e = .returned (.agg #[.string s, .int .i64 n, .slice a7 m k7]) ∧ Own w' 9 (.slice a7 m k7) (strs L)) ∧ Below w6.heap.size w6 w') := Lib.hid (fun W' h => (HTO2.out W' (HA.out.kept (HB6.out.trans (h.mono HB6.out.size)))).mono fun e w' hw => by
    obtain ⟨v7, rfl, hn7, hb7⟩ := hw
    obtain ⟨a7, k7, rfl, -⟩ := hn7.own.view
    have ho := hn7.own
    rw [strs_len, HLL.out] at ho ⊢
    exact ⟨⟨a7, k7, rfl, ho⟩, h.trans (hb7.mono h.size)⟩)
  have HEQ7 : Hid (∀ W' a7 k7, Below w6.heap.size w6 W' → Own W' 9 (.slice a7 m k7) (strs L) → Calls Try.prog 46 #[.agg #[.string s, .int .i64 n, .slice a4 m k4], .agg #[.string s, .int .i64 n, .slice a7 m k7]] W' fun e w' => e = .returned (.bool true) ∧ Below w6.heap.size w6 w') := Lib.hid (fun W' a7 k7 h ho => (eqMethod_same s n _ _ L W' (HN6.out.kept h).own ho (by rw [HLL.out]; omega)).mono fun e w' hw => ⟨hw.1, h.trans (hw.2.mono h.size)⟩)
  clear hltx hltr
  go_region_held3 (fun w' => w'.cell? ⟨w4.heap.size, 0, none⟩ = some (.string s) ∧ w'.cell? ⟨w4.heap.size, 1, none⟩ = some (.int .i64 n) ∧ w'.cell? ⟨w4.heap.size, 2, none⟩ = some (.slice a4 m k4) ∧ w'.cell? ⟨W.heap.size, 0, none⟩ = some (.string s) ∧ w'.cell? ⟨W.heap.size, 1, none⟩ = some (.int .i64 n) ∧ w'.cell? ⟨W.heap.size, 2, none⟩ = some (.slice a m cap) ∧ Below w6.heap.size w6 w') (first | assumption | exact HX6A.out _ (Below.refl _ _).drew) (first | (go_at_call 44; refine (HTO7.out _ (by first | exact (Below.refl _ _).drew | exact Below.refl _ _)).mono ?_; rintro e7 w7 ⟨⟨a7, k7, rfl, ho7⟩, hb7⟩; have hS7 := HX6A.out _ hb7) | (go_at_call 46; refine (HEQ7.out _ _ _ hb7 ho7).mono ?_; rintro e8 w8 ⟨rfl, hb8⟩; have hS8 := HX6A.out _ hb8) | fail)
  go_wp2
  go_ret
  exact ⟨rfl, HB6.out.trans (hS8.2.2.2.2.2.2.mono HB6.out.size)⟩

end Go.Proofs.Ytpfnamiacagocaa
