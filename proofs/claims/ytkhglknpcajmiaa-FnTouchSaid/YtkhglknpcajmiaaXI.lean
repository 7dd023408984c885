/- touchOf; the closure that goes from head to head. -/
import Derived.Test.YtkhglknpcajmiaaXH
namespace Go.Proofs.Ytkhglknpcajmiaa
open Go.RowKit
set_option linter.unusedSimpArgs false
set_option linter.unusedVariables false

/-- a touch of a method with calls -/
def touV (u : Value) (f h0 h1 h2 : Nat → Nat) (kv : Value) : Array Value := #[u, .int .u8 (f 0), .int .u8 (f 1), .int .u8 (f 2), .int .u8 (f 3), .int .u8 (f 4), .int .u8 (f 5), .int .u8 (f 6), .int .u8 (f 7), .int .u8 (h0 0), .int .u8 (h0 1), .int .u8 (h0 2), .int .u8 (h0 3), .int .u8 (h0 4), .int .u8 (h0 5), .int .u8 (h0 6), .int .u8 (h0 7), .int .u8 (h1 0), .int .u8 (h1 1), .int .u8 (h1 2), .int .u8 (h1 3), .int .u8 (h1 4), .int .u8 (h1 5), .int .u8 (h1 6), .int .u8 (h1 7), .int .u8 (h2 0), .int .u8 (h2 1), .int .u8 (h2 2), .int .u8 (h2 3), .int .u8 (h2 4), .int .u8 (h2 5), .int .u8 (h2 6), .int .u8 (h2 7), kv]
def zero34 : Array Value := #[.slice none 0 0, .int .u8 0, .int .u8 0, .int .u8 0, .int .u8 0, .int .u8 0, .int .u8 0, .int .u8 0, .int .u8 0, .int .u8 0, .int .u8 0, .int .u8 0, .int .u8 0, .int .u8 0, .int .u8 0, .int .u8 0, .int .u8 0, .int .u8 0, .int .u8 0, .int .u8 0, .int .u8 0, .int .u8 0, .int .u8 0, .int .u8 0, .int .u8 0, .int .u8 0, .int .u8 0, .int .u8 0, .int .u8 0, .int .u8 0, .int .u8 0, .int .u8 0, .int .u8 0, .slice none 0 0]
def TouNo (w : World) (e : Ending) (w' : World) : Prop := e = .returned (.tuple #[.agg zero34, .bool false]) ∧ Below w.heap.size w w'
def TouYes (n : Nat) (L : List (List Nat)) (h0 h1 h2 : Nat → Nat) (t : ByteArray) (w : World) (e : Ending) (w' : World) : Prop :=
  ∃ a1 k1 a2 k2, e = .returned (.tuple #[.agg (touV (.slice a1 L.length k1) (rdf n) h0 h1 h2 (.slice a2 t.size k2)), .bool true]) ∧ NewD w.heap.size w' (.slice a1 L.length k1) (chR n L) ∧ New w.heap.size w' 3 (.slice a2 t.size k2) (nums (kindsT t)) ∧ Below w.heap.size w w'

set_option maxRecDepth 100000 in
set_option maxHeartbeats 1000000 in
theorem touchOf_no (s : ByteArray) (hs : s.size ≤ maxLen) (n : Int) (v : Value) (L : List (List Nat)) (b q t : ByteArray) (ht : t.size ≤ maxLen) (w : World) (h : Txts w v L) (hl : L.length ≤ 2000000) (hk : (goodK s n L b q && goodT t) = false) :
    Calls Try.prog 108 #[.agg #[.string s, .int .i64 n, v], .agg #[.string b, .string q], .string t] w (TouNo w) := by
  obtain ⟨a, cap, rfl, hcap, -⟩ := id h
  unfold TouNo
  have HT := Lib.hid h
  have HTK := Lib.hid (touchKinds_any t ht)
  unfold NumsAny at HTK
  have HR0 := Lib.hid (((RowAt.new w 25 #[.string s, .int .i64 n, .slice a L.length cap]).push (.cells #[.string b, .string q] 27)).push (.cells zero34 116))
  have HK0 : Hid (RowAt (((w.alloc (.cells #[.string s, .int .i64 n, .slice a L.length cap] 25)).alloc (.cells #[.string b, .string q] 27)).alloc (.cells zero34 116)) (w.heap.size + 1) 27 #[.string b, .string q]) := Lib.hid (by
    have := (RowAt.new (w.alloc (.cells #[.string s, .int .i64 n, .slice a L.length cap] 25)) 27 #[.string b, .string q]).push (.cells zero34 116)
    simpa using this)
  have HZ0 : Hid (RowAt (((w.alloc (.cells #[.string s, .int .i64 n, .slice a L.length cap] 25)).alloc (.cells #[.string b, .string q] 27)).alloc (.cells zero34 116)) (w.heap.size + 1 + 1) 116 zero34) := Lib.hid (by
    have := RowAt.new ((w.alloc (.cells #[.string s, .int .i64 n, .slice a L.length cap] 25)).alloc (.cells #[.string b, .string q] 27)) 116 zero34
    simpa using this)
  have HB0 := Lib.hid ((((Below.refl _ w).alloc (Nat.le_refl _) (.cells #[.string s, .int .i64 n, .slice a L.length cap] 25)).alloc (by simp) (.cells #[.string b, .string q] 27)).alloc (by simp; omega) (.cells zero34 116))
  cases hg : goodK s n L b q
  · have HC := Lib.hid (fun w h => callingOf_no s hs n (.slice a L.length cap) L b q w h hl hg)
    generalize goodT t = gt at *
    generalize kindsY t = ky at *
    clear h hcap hl hg hk ht
    generalize L.length = m at *
    simp only [zero33, zero34] at HC HR0 HK0 HZ0 HB0
    go_enter Try.func108, Try.ntmps108
    go_wp2_with (first | (refine wpList_load_row rfl 25 _ rfl _ rfl 25 _ _ _ (HR0.out) Try.underlying25 rfl (by kernel_rfl) ?_) | (refine wpList_load_row rfl 27 _ rfl _ rfl 27 _ _ _ (HK0.out) Try.underlying27 rfl (by kernel_rfl) ?_) | fail)
    refine (HC.out _ (HT.out.kept HB0.out)).mono ?_
    rintro e w1 ⟨rfl, hb1⟩
    have HZ1 := Lib.hid (HZ0.out.kept hb1)
    have HB1 := Lib.hid (HB0.out.trans (hb1.mono HB0.out.size))
    have hal := (Below.refl w1.heap.size w1).alloc (Nat.le_refl _) (.cells zero33 92)
    simp only [zero33] at hal
    have HZ2 := Lib.hid (HZ1.out.kept hal)
    have HB2 := Lib.hid (HB1.out.trans (hal.mono HB1.out.size))
    clear hb1 HR0 HK0 HB0 HC HT HZ0 HZ1 HB1 hal
    go_wp2_with (first | (refine wpList_store_row rfl 92 _ _ rfl _ _ rfl rfl 92 _ (heap_at _ _ _ (by simp)) (by kernel_rfl) rfl (by kernel_rfl) ?_; rw [setRow_at _ _ _ _ _ (by simp)]) | fail)
    refine (HTK.out _).mono ?_
    rintro e w3 ⟨v3, rfl, hn3, hb3⟩
    have HZ3 := Lib.hid (HZ2.out.kept hb3)
    have HB3 := Lib.hid (HB2.out.trans (hb3.mono HB2.out.size))
    clear hb3 hn3 HZ2 HB2
    go_wp2_with (first | (refine wpList_store_row rfl 116 _ _ rfl _ _ rfl rfl 116 _ (HZ3.out) (by kernel_rfl) rfl (by kernel_rfl) ?_) | fail)
    exact bodyPost_ret (results_row_tmp rfl _ _ (w.heap.size + 1 + 1) 116 _ (0, 0) _ rfl (HZ3.out.row _) Try.underlying116 rfl (by kernel_rfl)) rfl ⟨rfl, below_setRow HB3.out (by omega) _⟩
  · obtain ⟨n, rfl⟩ := goodK_cast hg
    have hgt : goodT t = false := by rwa [hg, Bool.true_and] at hk
    have HC := Lib.hid (fun w h => callingOf_yes s hs n (.slice a L.length cap) L b q w h hl hg)
    rw [hgt] at HTK
    generalize kindsY t = ky at *
    unfold CallYes at HC
    generalize hdK n L b q 0 = h0 at *
    generalize hdK n L b q 1 = h1 at *
    generalize hdK n L b q 2 = h2 at *
    generalize rdf n = f at *
    clear h hcap hl hg hk ht hgt
    generalize L.length = m at *
    simp only [zero34] at HR0 HK0 HZ0 HB0
    go_enter Try.func108, Try.ntmps108
    go_wp2_with (first | (refine wpList_load_row rfl 25 _ rfl _ rfl 25 _ _ _ (HR0.out) Try.underlying25 rfl (by kernel_rfl) ?_) | (refine wpList_load_row rfl 27 _ rfl _ rfl 27 _ _ _ (HK0.out) Try.underlying27 rfl (by kernel_rfl) ?_) | fail)
    refine (HC.out _ (HT.out.kept HB0.out)).mono ?_
    rintro e w1 ⟨a1, k1, rfl, hb1⟩
    have HZ1 := Lib.hid (HZ0.out.kept hb1)
    have HB1 := Lib.hid (HB0.out.trans (hb1.mono HB0.out.size))
    have hal := (Below.refl w1.heap.size w1).alloc (Nat.le_refl _) (.cells (callV (.slice a1 m k1) f h0 h1 h2) 92)
    have HZ2 := Lib.hid (HZ1.out.kept hal)
    have HB2 := Lib.hid (HB1.out.trans (hal.mono HB1.out.size))
    clear hb1 HR0 HK0 HB0 HC HT HZ0 HZ1 HB1 hal
    simp only [callV] at HZ2 HB2 ⊢
    go_wp2_with (first | (refine wpList_store_row rfl 92 _ _ rfl _ _ rfl rfl 92 _ (heap_at _ _ _ (by simp)) (by kernel_rfl) rfl (by kernel_rfl) ?_; rw [setRow_at _ _ _ _ _ (by simp)]) | fail)
    refine (HTK.out _).mono ?_
    rintro e w3 ⟨v3, rfl, hn3, hb3⟩
    have HZ3 := Lib.hid (HZ2.out.kept hb3)
    have HB3 := Lib.hid (HB2.out.trans (hb3.mono HB2.out.size))
    clear hb3 hn3 HZ2 HB2
    go_wp2_with (first | (refine wpList_store_row rfl 116 _ _ rfl _ _ rfl rfl 116 _ (HZ3.out) (by kernel_rfl) rfl (by kernel_rfl) ?_) | fail)
    exact bodyPost_ret (results_row_tmp rfl _ _ (w.heap.size + 1 + 1) 116 _ (0, 0) _ rfl (HZ3.out.row _) Try.underlying116 rfl (by kernel_rfl)) rfl ⟨rfl, below_setRow HB3.out (by omega) _⟩

set_option maxRecDepth 100000 in
set_option maxHeartbeats 1000000 in
theorem touchOf_yes (s : ByteArray) (hs : s.size ≤ maxLen) (n : Nat) (v : Value) (L : List (List Nat)) (b q t : ByteArray) (w : World) (h : Txts w v L) (hl : L.length ≤ 2000000) (hg : goodK s n L b q = true) (hgt : goodT t = true) :
    Calls Try.prog 108 #[.agg #[.string s, .int .i64 n, v], .agg #[.string b, .string q], .string t] w (TouYes n L (hdK n L b q 0) (hdK n L b q 1) (hdK n L b q 2) t w) := by
  obtain ⟨a, cap, rfl, hcap, -⟩ := id h
  unfold TouYes
  have HT := Lib.hid h
  have HTK := Lib.hid (touchKinds_any t (by have := (goodT_parts hgt).2.1; unfold maxLen; omega))
  unfold NumsAny at HTK
  rw [hgt, kindsY_yes hgt] at HTK
  have HKL := Lib.hid (kindsT_len t)
  have HR0 := Lib.hid (((RowAt.new w 25 #[.string s, .int .i64 n, .slice a L.length cap]).push (.cells #[.string b, .string q] 27)).push (.cells zero34 116))
  have HK0 : Hid (RowAt (((w.alloc (.cells #[.string s, .int .i64 n, .slice a L.length cap] 25)).alloc (.cells #[.string b, .string q] 27)).alloc (.cells zero34 116)) (w.heap.size + 1) 27 #[.string b, .string q]) := Lib.hid (by
    have := (RowAt.new (w.alloc (.cells #[.string s, .int .i64 n, .slice a L.length cap] 25)) 27 #[.string b, .string q]).push (.cells zero34 116)
    simpa using this)
  have HZ0 : Hid (RowAt (((w.alloc (.cells #[.string s, .int .i64 n, .slice a L.length cap] 25)).alloc (.cells #[.string b, .string q] 27)).alloc (.cells zero34 116)) (w.heap.size + 1 + 1) 116 zero34) := Lib.hid (by
    have := RowAt.new ((w.alloc (.cells #[.string s, .int .i64 n, .slice a L.length cap] 25)).alloc (.cells #[.string b, .string q] 27)) 116 zero34
    simpa using this)
  have HB0 := Lib.hid ((((Below.refl _ w).alloc (Nat.le_refl _) (.cells #[.string s, .int .i64 n, .slice a L.length cap] 25)).alloc (by simp) (.cells #[.string b, .string q] 27)).alloc (by simp; omega) (.cells zero34 116))
  have HC := Lib.hid (fun w h => callingOf_new s hs n (.slice a L.length cap) L b q w h hl hg)
  unfold CallNew at HC
  have HLM := Lib.hid (chR_len n L)
  generalize hdK n L b q 0 = h0 at *
  generalize hdK n L b q 1 = h1 at *
  generalize hdK n L b q 2 = h2 at *
  generalize rdf n = f at *
  generalize chR n L = cs at *
  generalize kindsT t = ks at *
  generalize t.size = tm at *
  clear h hcap hl hg hgt
  generalize L.length = m at *
  simp only [zero34] at HR0 HK0 HZ0 HB0
  go_enter Try.func108, Try.ntmps108
  go_wp2_with (first | (refine wpList_load_row rfl 25 _ rfl _ rfl 25 _ _ _ (HR0.out) Try.underlying25 rfl (by kernel_rfl) ?_) | (refine wpList_load_row rfl 27 _ rfl _ rfl 27 _ _ _ (HK0.out) Try.underlying27 rfl (by kernel_rfl) ?_) | fail)
  refine (HC.out _ (HT.out.kept HB0.out)).mono ?_
  rintro e w1 ⟨a1, k1, rfl, hn1, hb1⟩
  have HZ1 := Lib.hid (HZ0.out.kept hb1)
  have HB1 := Lib.hid (HB0.out.trans (hb1.mono HB0.out.size))
  have hal := (Below.refl w1.heap.size w1).alloc (Nat.le_refl _) (.cells (callV (.slice a1 m k1) f h0 h1 h2) 92)
  have HX2 := Lib.hid (RowAt.new w1 92 (callV (.slice a1 m k1) f h0 h1 h2))
  have HZ2 := Lib.hid (HZ1.out.kept hal)
  have HB2 := Lib.hid (HB1.out.trans (hal.mono HB1.out.size))
  have HN2 := Lib.hid ((hn1.lower (B' := w.heap.size + 3) (by simp)).kept hal)
  clear hb1 hn1 HR0 HK0 HB0 HC HT HZ0 HZ1 HB1 hal
  simp only [callV] at HZ2 HB2 HN2 HX2 ⊢
  go_wp2_with (first | (refine wpList_store_row rfl 92 _ _ rfl _ _ rfl rfl 92 _ (heap_at _ _ _ (by simp)) (by kernel_rfl) rfl (by kernel_rfl) ?_; rw [setRow_at _ _ _ _ _ (by simp)]) | fail)
  refine (HTK.out _).mono ?_
  rintro e w3 ⟨v3, rfl, hn3, hb3⟩
  obtain ⟨a3, k3, rfl, -⟩ := hn3.own.view
  rw [nums_len, HKL.out] at hn3 ⊢
  have HX3 := Lib.hid (HX2.out.kept hb3)
  have HZ3 := Lib.hid (HZ2.out.kept hb3)
  have HN3 := Lib.hid (HN2.out.kept hb3)
  have HB3 := Lib.hid (HB2.out.trans (hb3.mono HB2.out.size))
  have HQ3 := Lib.hid (hn3.lower (B' := w.heap.size + 3) (by have := HB2.out.size; have := HZ2.out.lt; omega))
  clear hb3 hn3 HZ2 HB2 HX2 HN2
  go_wp2_with (first | (refine wpList_load_row rfl 92 _ rfl _ rfl 92 _ _ _ (HX3.out) Try.underlying92 rfl (by kernel_rfl) ?_) | (refine wpList_store_row rfl 116 _ _ rfl _ _ rfl rfl 116 _ (HZ3.out) (by kernel_rfl) rfl (by kernel_rfl) ?_) | fail)
  exact bodyPost_ret (results_row_tmp rfl _ _ (w.heap.size + 1 + 1) 116 _ (0, 0) _ rfl (HZ3.out.row _) Try.underlying116 rfl (by kernel_rfl)) rfl ⟨_, _, _, _, rfl, (HN3.out.setRowOther _ _ (fun e => absurd (HN3.out.lt _ e).1 (by omega))).lower (by omega), (HQ3.out.setRowOther _ _ (HQ3.out.apartRow HZ3.out (by decide))).lower (by omega), below_setRow HB3.out (by omega) _⟩
end Go.Proofs.Ytkhglknpcajmiaa
