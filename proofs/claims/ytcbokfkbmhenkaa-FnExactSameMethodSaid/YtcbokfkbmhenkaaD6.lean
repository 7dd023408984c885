/- The law FnExactSameMethod. -/
import Derived.Test.YtcbokfkbmhenkaaD5
namespace Go.Proofs.Ytcbokfkbmhenkaa
open Go.RowKit
set_option linter.unusedSimpArgs false
set_option linter.unusedVariables false

/-- what a copy gives, behind W0 -/
def CopyIn (s : ByteArray) (n : Int) (m : Nat) (L : List (List Nat)) (W0 W' : World) (e : Ending) (w' : World) : Prop :=
  ∃ a k, e = .returned (.agg #[.string s, .int .i64 n, .slice a m k]) ∧ Own w' 9 (.slice a m k) (strs L) ∧ (∀ g, (Value.slice a m k).ownBlock = some g → W'.heap.size ≤ g) ∧ Below W'.heap.size W' w' ∧ Below W0.heap.size W0 w'
theorem copyIn (s : ByteArray) (n : Int) (v : Value) (ss : List ByteArray) (hl : ss.length ≤ 2000000) (W0 : World) (h0 : Arg W0 v ss) (W' : World) (h : Below W0.heap.size W0 W') :
    Calls Try.prog 46 #[.agg #[.string s, .int .i64 n, v]] W' (CopyIn s n ss.length (letss ss) W0 W') :=
  (toMethod_any s n v ss W' (h0.kept h) hl).mono fun e w' hw => by
    obtain ⟨v7, rfl, hn7, hb7⟩ := hw
    obtain ⟨a7, k7, rfl, -⟩ := hn7.own.view
    have ho := hn7.own
    have hbs := hn7.base
    rw [strs_len, letss_len] at ho hbs ⊢
    exact ⟨a7, k7, rfl, ho, hbs, hb7, h.trans (hb7.mono h.size)⟩

set_option maxRecDepth 100000 in
set_option maxHeartbeats 1000000 in
theorem lawSameMethod (s : ByteArray) (n : Int) (v : Value) (ss : List ByteArray) (s' : ByteArray) (n' : Int) (v' : Value) (ss' : List ByteArray) (W : World) (hsz : s.size ≤ maxLen) (hA : Arg W v ss) (hy : ss.length ≤ maxLen ∧ ∀ t ∈ ss, t.size ≤ maxLen)
    (hsz' : s'.size ≤ maxLen) (hA' : Arg W v' ss') (hy' : ss'.length ≤ maxLen ∧ ∀ t ∈ ss', t.size ≤ maxLen) :
    Calls Try.prog 15 #[.agg #[.string s, .int .i64 n, v], .agg #[.string s', .int .i64 n', v']] W fun e w' => e = .returned (.bool true) ∧ Below W.heap.size W w' := by
  obtain ⟨a, cap, rfl, -⟩ := id hA
  obtain ⟨a', cap', rfl, -⟩ := id hA'
  have HSZ : Hid (∀ w, Arg w (.slice a ss.length cap) ss → Calls Try.prog 44 #[.agg #[.string s, .int .i64 n, .slice a ss.length cap], .int .i64 1048576] w _) := Lib.hid (fun w h => szMethod_any s hsz n (.slice a ss.length cap) ss w h hy.1 hy.2 1048576 (by omega) (by omega))
  have HSZ' : Hid (∀ w, Arg w (.slice a' ss'.length cap') ss' → ∀ z : Int, 0 ≤ z → z ≤ 1048576 → Calls Try.prog 44 #[.agg #[.string s', .int .i64 n', .slice a' ss'.length cap'], .int .i64 z] w _) := Lib.hid (fun w h z h0 h1 => szMethod_any s' hsz' n' (.slice a' ss'.length cap') ss' w h hy'.1 hy'.2 z h0 h1)
  have HTO := Lib.hid (fun hl => copyIn s n (.slice a ss.length cap) ss hl)
  have HTO' := Lib.hid (fun hl => copyIn s' n' (.slice a' ss'.length cap') ss' hl)
  have HLL := Lib.hid (letss_len ss)
  have HLL' := Lib.hid (letss_len ss')
  have HI := Lib.hid (fun v v' w h h' hl hl' => iSameMethod_any s s' n n' v v' (letss ss) (letss ss') w h h' hl hl')
  have HS := Lib.hid (fun v v' w h h' hl hl' => sSameMethod_any s s' n n' v v' (letss ss) (letss ss') w h h' hl hl')
  generalize sameB s s' n n' (letss ss) (letss ss') = res at *
  have HA := Lib.hid hA
  have HA' := Lib.hid hA'
  have HR0 := Lib.hid ((RowAt.new W 52 #[.string s, .int .i64 n, .slice a ss.length cap]).push (.cells #[.string s', .int .i64 n', .slice a' ss'.length cap'] 52))
  have HY0 : Hid (RowAt ((W.alloc (.cells #[.string s, .int .i64 n, .slice a ss.length cap] 52)).alloc (.cells #[.string s', .int .i64 n', .slice a' ss'.length cap'] 52)) (W.heap.size + 1) 52 #[.string s', .int .i64 n', .slice a' ss'.length cap']) := Lib.hid (by
    have := RowAt.new (W.alloc (.cells #[.string s, .int .i64 n, .slice a ss.length cap] 52)) 52 #[.string s', .int .i64 n', .slice a' ss'.length cap']
    simpa using this)
  have HB0 := Lib.hid (((Below.refl _ W).alloc (Nat.le_refl _) (.cells #[.string s, .int .i64 n, .slice a ss.length cap] 52)).alloc (by simp) (.cells #[.string s', .int .i64 n', .slice a' ss'.length cap'] 52))
  generalize letss ss = L at *
  generalize letss ss' = M at *
  generalize hm : ss.length = m at *
  generalize hm' : ss'.length = m' at *
  have HMM := Lib.hid hm
  have HMM' := Lib.hid hm'
  clear hA hy hsz hm hA' hy' hsz' hm'
  go_enter Try.func15, Try.ntmps15
  go_wp2_with (first | (refine wpList_load_row rfl 52 _ rfl _ rfl 52 _ _ _ (HR0.out) Try.underlying52 rfl (by kernel_rfl) ?_) | fail)
  refine (HSZ.out _ (HA.out.kept HB0.out)).mono ?_
  rintro e w1 ⟨z, rfl, hz0, hz1, hz2, hb1⟩
  have HR1 := Lib.hid (HR0.out.kept hb1)
  have HY1 := Lib.hid (HY0.out.kept hb1)
  have HB1 := Lib.hid (HB0.out.trans (hb1.mono HB0.out.size))
  clear HR0 HB0 hb1 HSZ HY0
  by_cases hneg : z < 0
  · clear hz2
    go_wp2
    go_ret
    exact ⟨rfl, HB1.out⟩
  have HZ3 := Lib.hid (hz2 (by omega))
  clear hz2
  go_wp2_with (first | (refine wpList_load_row rfl 52 _ rfl _ rfl 52 _ _ _ (HY1.out) Try.underlying52 rfl (by kernel_rfl) ?_) | fail)
  refine (HSZ'.out _ (HA'.out.kept HB1.out) z (by omega) hz1).mono ?_
  rintro e w2 ⟨y, rfl, hy0, hy1, hy2, hb2⟩
  have HR2 := Lib.hid (HR1.out.kept hb2)
  have HY2 := Lib.hid (HY1.out.kept hb2)
  have HB2 := Lib.hid (HB1.out.trans (hb2.mono HB1.out.size))
  clear HR1 HB1 hb2 HSZ' HY1
  by_cases hneg2 : y < 0
  · clear hy2
    go_wp2
    go_ret
    exact ⟨rfl, HB2.out⟩
  have hy3 := hy2 (by omega)
  have hl : m ≤ 1048576 := by have := HZ3.out.2.1; omega
  have hl' : m' ≤ 1048576 := by have := hy3.2.1; omega
  have HT := Lib.hid (fun W0 h0 W' h => HTO.out (by omega) W0 h0 W' h)
  have HT' := Lib.hid (fun W0 h0 W' h => HTO'.out (by omega) W0 h0 W' h)
  have HI2 := Lib.hid (fun v v' w h h' => HI.out v v' w h h' (by rw [HLL.out]; omega) (by rw [HLL'.out]; omega))
  have HS2 := Lib.hid (fun v v' w h h' => HS.out v v' w h h' (by rw [HLL.out]; omega) (by rw [HLL'.out]; omega))
  clear hy2 hy3 HTO HTO' HI HS
  unfold CopyIn at HT HT'
  go_wp2
  have hltr := HR2.out.lt
  have hlty := HY2.out.lt
  have HX2 : Hid (∀ W', Below w2.heap.size w2 W' → (W'.cell? ⟨W.heap.size, 0, none⟩ = some (.string s) ∧ W'.cell? ⟨W.heap.size, 1, none⟩ = some (.int .i64 n) ∧ W'.cell? ⟨W.heap.size, 2, none⟩ = some (.slice a m cap) ∧ W'.cell? ⟨W.heap.size + 1, 0, none⟩ = some (.string s') ∧ W'.cell? ⟨W.heap.size + 1, 1, none⟩ = some (.int .i64 n') ∧ W'.cell? ⟨W.heap.size + 1, 2, none⟩ = some (.slice a' m' cap') ∧ Below w2.heap.size w2 W')) := Lib.hid (fun W' h => by
    have hx := HR2.out.keep h hltr
    have hr := HY2.out.keep h hlty
    exact ⟨hx.cell 0 rfl, hx.cell 1 rfl, hx.cell 2 rfl, hr.cell 0 rfl, hr.cell 1 rfl, hr.cell 2 rfl, h⟩)
  have HA2 := Lib.hid (HA.out.kept HB2.out)
  have HA2' := Lib.hid (HA'.out.kept HB2.out)
  clear hltr hlty
  go_region_held3 (fun w' => w'.cell? ⟨W.heap.size, 0, none⟩ = some (.string s) ∧ w'.cell? ⟨W.heap.size, 1, none⟩ = some (.int .i64 n) ∧ w'.cell? ⟨W.heap.size, 2, none⟩ = some (.slice a m cap) ∧ w'.cell? ⟨W.heap.size + 1, 0, none⟩ = some (.string s') ∧ w'.cell? ⟨W.heap.size + 1, 1, none⟩ = some (.int .i64 n') ∧ w'.cell? ⟨W.heap.size + 1, 2, none⟩ = some (.slice a' m' cap') ∧ Below w2.heap.size w2 w') (first | assumption | exact HX2.out _ (Below.refl _ _).drew) (first | (go_at_call 46; have hb3q := hb3; refine (HT'.out _ HA2'.out _ hb3).mono ?_; rintro e4 w4 ⟨a4, k4, rfl, ho4, -, hbb4, hb4⟩; have hS4 := HX2.out _ hb4) | (go_at_call 46; refine (HT.out _ HA2.out _ (Below.refl _ _).drew).mono ?_; rintro e3 w3 ⟨a3, k3, rfl, ho3, -, hbb3, hb3⟩; have hS3 := HX2.out _ hb3) | (go_at_call 20; refine (HS2.out _ _ _ (ho3.kept hbb4).txts ho4.txts).mono ?_; rintro e5 w5 ⟨rfl, hbb5⟩; have hb5 := hb4.trans (hbb5.mono hb4.size); have hS5 := HX2.out _ hb5) | fail)
  have HR5 := Lib.hid (HR2.out.kept hb5)
  have HY5 := Lib.hid (HY2.out.kept hb5)
  have HB5 := Lib.hid (HB2.out.trans (hb5.mono HB2.out.size))
  clear hS5 hS4 hS3 hb3 hb4 hb5 hbb3 hbb4 hbb5 ho3 ho4 HX2 HR2 HY2 HB2 HA2 HA2'
  go_wp2_with (first | (refine wpList_load_row rfl 52 _ rfl _ rfl 52 _ _ _ (HR5.out) Try.underlying52 rfl (by kernel_rfl) ?_) | fail)
  refine (HT.out _ (HA.out.kept HB5.out) _ (Below.refl _ _)).mono ?_
  rintro e w6 ⟨a6, k6, rfl, ho6, hbs6, hb6, -⟩
  have HR6 := Lib.hid (HR5.out.kept hb6)
  have HY6 := Lib.hid (HY5.out.kept hb6)
  have HB6 := Lib.hid (HB5.out.trans (hb6.mono HB5.out.size))
  have HO6 := Lib.hid ho6
  clear HR5 HY5 HB5 hb6 ho6 hbs6
  have HR7 := Lib.hid (HR6.out.push (.cells #[.string s, .int .i64 n, .slice a6 m k6] 26))
  have HY7 := Lib.hid (HY6.out.push (.cells #[.string s, .int .i64 n, .slice a6 m k6] 26))
  have HB7 := Lib.hid (HB6.out.alloc HB6.out.size (.cells #[.string s, .int .i64 n, .slice a6 m k6] 26))
  have HO7 := Lib.hid (HO6.out.kept ((Below.refl _ _).alloc (Nat.le_refl _) (.cells #[.string s, .int .i64 n, .slice a6 m k6] 26)))
  have HX7 := Lib.hid (RowAt.new w6 26 #[.string s, .int .i64 n, .slice a6 m k6])
  clear HR6 HY6 HB6 HO6
  go_wp2_with (first | (refine wpList_store_row rfl 26 _ _ rfl _ _ rfl rfl 26 _ (heap_alloc_new _ _) (by kernel_rfl) rfl (by kernel_rfl) ?_; rw [World.setRow_alloc_new]) | (refine wpList_load_row rfl 52 _ rfl _ rfl 52 _ _ _ (HY7.out) Try.underlying52 rfl (by kernel_rfl) ?_) | fail)
  generalize w6.alloc (.cells #[.string s, .int .i64 n, .slice a6 m k6] 26) = w7 at *
  refine (HT'.out _ (HA'.out.kept HB7.out) _ (Below.refl _ _)).mono ?_
  rintro e w8 ⟨a8, k8, rfl, ho8, hbs8, hb8, -⟩
  have HR8 := Lib.hid (HR7.out.kept hb8)
  have HY8 := Lib.hid (HY7.out.kept hb8)
  have HX8 := Lib.hid (HX7.out.kept hb8)
  have HB8 := Lib.hid (HB7.out.trans (hb8.mono HB7.out.size))
  have HO8 := Lib.hid (HO7.out.kept hb8)
  have HP8 := Lib.hid ho8
  clear HR7 HY7 HB7 hb8 ho8 hbs8 HX7 HO7
  have HR9 := Lib.hid (HR8.out.push (.cells #[.string s', .int .i64 n', .slice a8 m' k8] 26))
  have HY9 := Lib.hid (HY8.out.push (.cells #[.string s', .int .i64 n', .slice a8 m' k8] 26))
  have HX9 := Lib.hid (HX8.out.push (.cells #[.string s', .int .i64 n', .slice a8 m' k8] 26))
  have HB9 := Lib.hid (HB8.out.alloc HB8.out.size (.cells #[.string s', .int .i64 n', .slice a8 m' k8] 26))
  have HO9 := Lib.hid (HO8.out.kept ((Below.refl _ _).alloc (Nat.le_refl _) (.cells #[.string s', .int .i64 n', .slice a8 m' k8] 26)))
  have HP9 := Lib.hid (HP8.out.kept ((Below.refl _ _).alloc (Nat.le_refl _) (.cells #[.string s', .int .i64 n', .slice a8 m' k8] 26)))
  have HZ9 := Lib.hid (RowAt.new w8 26 #[.string s', .int .i64 n', .slice a8 m' k8])
  clear HR8 HY8 HB8 HX8 HO8 HP8
  go_wp2_with (first | (refine wpList_store_row rfl 26 _ _ rfl _ _ rfl rfl 26 _ (heap_alloc_new _ _) (by kernel_rfl) rfl (by kernel_rfl) ?_; rw [World.setRow_alloc_new]) | (refine wpList_load_row rfl 26 _ rfl _ rfl 26 _ _ _ (HX9.out) Try.underlying26 rfl (by kernel_rfl) ?_) | (refine wpList_load_row rfl 26 _ rfl _ rfl 26 _ _ _ (HZ9.out) Try.underlying26 rfl (by kernel_rfl) ?_) | fail)
  generalize w8.alloc (.cells #[.string s', .int .i64 n', .slice a8 m' k8] 26) = w9 at *
  refine (HI2.out _ _ _ HO9.out.txts HP9.out.txts).mono ?_
  rintro e w10 ⟨rfl, hb10⟩
  have HR10 := Lib.hid (HR9.out.kept hb10)
  have HY10 := Lib.hid (HY9.out.kept hb10)
  have HX10 := Lib.hid (HX9.out.kept hb10)
  have HZ10 := Lib.hid (HZ9.out.kept hb10)
  have HB10 := Lib.hid (HB9.out.trans (hb10.mono HB9.out.size))
  have HO10 := Lib.hid (HO9.out.kept hb10)
  have HP10 := Lib.hid (HP9.out.kept hb10)
  clear HR9 HY9 HX9 HZ9 HB9 HO9 HP9 hb10
  go_wp2
  have hltx := HX10.out.lt
  have hltr := HR10.out.lt
  have HXA10 : Hid (∀ W', Below w10.heap.size w10 W' → (W'.cell? ⟨w6.heap.size, 0, none⟩ = some (.string s) ∧ W'.cell? ⟨w6.heap.size, 1, none⟩ = some (.int .i64 n) ∧ W'.cell? ⟨w6.heap.size, 2, none⟩ = some (.slice a6 m k6) ∧ W'.cell? ⟨W.heap.size, 0, none⟩ = some (.string s) ∧ W'.cell? ⟨W.heap.size, 1, none⟩ = some (.int .i64 n) ∧ W'.cell? ⟨W.heap.size, 2, none⟩ = some (.slice a m cap) ∧ Below w10.heap.size w10 W')) := Lib.hid (fun W' h => by
    have hx := HX10.out.keep h hltx
    have hr := HR10.out.keep h hltr
    exact ⟨hx.cell 0 rfl, hx.cell 1 rfl, hx.cell 2 rfl, hr.cell 0 rfl, hr.cell 1 rfl, hr.cell 2 rfl, h⟩)
  have HAT10 := Lib.hid (HA.out.kept HB10.out)
  have HEQ10 : Hid (∀ W' a7 k7, Below w10.heap.size w10 W' → Own W' 9 (.slice a7 m k7) (strs L) → Calls Try.prog 48 #[.agg #[.string s, .int .i64 n, .slice a6 m k6], .agg #[.string s, .int .i64 n, .slice a7 m k7]] W' fun e w' => e = .returned (.bool true) ∧ Below w10.heap.size w10 w') := Lib.hid (fun W' a7 k7 h ho => (eqMethod_same s n _ _ L W' (HO10.out.kept h) ho (by rw [HLL.out]; omega)).mono fun e w' hw => ⟨hw.1, h.trans (hw.2.mono h.size)⟩)
  clear hltx hltr
  go_region_held3 (fun w' => w'.cell? ⟨w6.heap.size, 0, none⟩ = some (.string s) ∧ w'.cell? ⟨w6.heap.size, 1, none⟩ = some (.int .i64 n) ∧ w'.cell? ⟨w6.heap.size, 2, none⟩ = some (.slice a6 m k6) ∧ w'.cell? ⟨W.heap.size, 0, none⟩ = some (.string s) ∧ w'.cell? ⟨W.heap.size, 1, none⟩ = some (.int .i64 n) ∧ w'.cell? ⟨W.heap.size, 2, none⟩ = some (.slice a m cap) ∧ Below w10.heap.size w10 w') (first | assumption | exact HXA10.out _ (Below.refl _ _).drew) (first | (go_at_call 46; refine (HT.out _ HAT10.out _ (Below.refl _ _).drew).mono ?_; rintro e11 w12a ⟨a11, k11, rfl, ho11, -, -, hb11⟩; have hS11 := HXA10.out _ hb11) | (go_at_call 48; refine (HEQ10.out _ _ _ hb11 ho11).mono ?_; rintro e12 w12 ⟨rfl, hb12⟩; have hS12 := HXA10.out _ hb12) | fail)
  have HY12 := Lib.hid (HY10.out.kept hb12)
  have HZ12 := Lib.hid (HZ10.out.kept hb12)
  have HB12 := Lib.hid (HB10.out.trans (hb12.mono HB10.out.size))
  have HP12 := Lib.hid (HP10.out.kept hb12)
  clear hS11 hS12 hb11 hb12 ho11 HXA10 HAT10 HEQ10 HR10 HY10 HX10 HZ10 HB10 HO10 HP10
  go_wp2
  have hltx := HZ12.out.lt
  have hltr := HY12.out.lt
  have HXA12 : Hid (∀ W', Below w12.heap.size w12 W' → (W'.cell? ⟨w8.heap.size, 0, none⟩ = some (.string s') ∧ W'.cell? ⟨w8.heap.size, 1, none⟩ = some (.int .i64 n') ∧ W'.cell? ⟨w8.heap.size, 2, none⟩ = some (.slice a8 m' k8) ∧ W'.cell? ⟨W.heap.size + 1, 0, none⟩ = some (.string s') ∧ W'.cell? ⟨W.heap.size + 1, 1, none⟩ = some (.int .i64 n') ∧ W'.cell? ⟨W.heap.size + 1, 2, none⟩ = some (.slice a' m' cap') ∧ Below w12.heap.size w12 W')) := Lib.hid (fun W' h => by
    have hx := HZ12.out.keep h hltx
    have hr := HY12.out.keep h hltr
    exact ⟨hx.cell 0 rfl, hx.cell 1 rfl, hx.cell 2 rfl, hr.cell 0 rfl, hr.cell 1 rfl, hr.cell 2 rfl, h⟩)
  have HAT12 := Lib.hid (HA'.out.kept HB12.out)
  have HEQ12 : Hid (∀ W' a7 k7, Below w12.heap.size w12 W' → Own W' 9 (.slice a7 m' k7) (strs M) → Calls Try.prog 48 #[.agg #[.string s', .int .i64 n', .slice a8 m' k8], .agg #[.string s', .int .i64 n', .slice a7 m' k7]] W' fun e w' => e = .returned (.bool true) ∧ Below w12.heap.size w12 w') := Lib.hid (fun W' a7 k7 h ho => (eqMethod_same s' n' _ _ M W' (HP12.out.kept h) ho (by rw [HLL'.out]; omega)).mono fun e w' hw => ⟨hw.1, h.trans (hw.2.mono h.size)⟩)
  clear hltx hltr
  go_region_held3 (fun w' => w'.cell? ⟨w8.heap.size, 0, none⟩ = some (.string s') ∧ w'.cell? ⟨w8.heap.size, 1, none⟩ = some (.int .i64 n') ∧ w'.cell? ⟨w8.heap.size, 2, none⟩ = some (.slice a8 m' k8) ∧ w'.cell? ⟨W.heap.size + 1, 0, none⟩ = some (.string s') ∧ w'.cell? ⟨W.heap.size + 1, 1, none⟩ = some (.int .i64 n') ∧ w'.cell? ⟨W.heap.size + 1, 2, none⟩ = some (.slice a' m' cap') ∧ Below w12.heap.size w12 w') (first | assumption | exact HXA12.out _ (Below.refl _ _).drew) (first | (go_at_call 46; refine (HT'.out _ HAT12.out _ (Below.refl _ _).drew).mono ?_; rintro e11 w14a ⟨a11, k11, rfl, ho11, -, -, hb11⟩; have hS11 := HXA12.out _ hb11) | (go_at_call 48; refine (HEQ12.out _ _ _ hb11 ho11).mono ?_; rintro e12 w14 ⟨rfl, hb14⟩; have hS14 := HXA12.out _ hb14) | fail)
  go_wp2
  go_ret
  exact ⟨rfl, HB12.out.trans (hS14.2.2.2.2.2.2.mono HB12.out.size)⟩
end Go.Proofs.Ytcbokfkbmhenkaa
