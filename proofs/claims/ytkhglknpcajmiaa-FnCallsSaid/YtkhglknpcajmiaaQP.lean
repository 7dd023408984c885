/- CalledLead in the program and in the model. -/
import Derived.Test.YtkhglknpcajmiaaQE
import Derived.Test.YtkhglknpcajmiaaQF
namespace Go.Proofs.Ytkhglknpcajmiaa
open Go.RowKit
set_option linter.unusedSimpArgs false
set_option linter.unusedVariables false

theorem wpList_unguardC {P : Program} {ops : Array Oper} {Q : Exit → Act → World → Prop} {a : Act} {w : World} {rest : List Oper} {o : Oper} (hw : Region.wanted o (yielded ops a.tmps) = true)
    (h : wpList P ops Q ({o with guard := none} :: rest) a w) : wpList P ops Q (o :: rest) a w := by
  unfold wpList at h ⊢
  rw [if_pos hw]
  rw [if_pos (show Region.wanted {o with guard := none} (yielded ops a.tmps) = true by simp [Region.wanted])] at h
  exact h
theorem New.setC {B : Nat} {W : World} {e : TypeId} {g n cap : Nat} {xs : List Value} (h : New B W e (.slice (some ⟨g, 0, none⟩) n cap) xs) (k : Nat) (u : Value) : New B (W.setCell ⟨g, k, none⟩ u) e (.slice (some ⟨g, 0, none⟩) n cap) (xs.set k u) := ⟨h.own.set k u, h.base⟩
/-- a method of its own, and a flag -/
def MethK (s : ByteArray) (n : Int) (L : List (List Nat)) (b : Bool) (w : World) (e : Ending) (w' : World) : Prop :=
  ∃ v, e = .returned (.tuple #[.agg #[.string s, .int .i64 n, v], .bool b]) ∧ New w.heap.size w' 9 v (strs L) ∧ Below w.heap.size w w'
/-- the changes of a lead with a call -/
def calledL (L : List (List Nat)) (x : ByteArray) : List (List Nat) := L.set (L.length - 1) (lets x)
theorem strs_called (L : List (List Nat)) (x : ByteArray) (k : Nat) (hk : L.length = k + 1) : (strs L).set k (.string x) = strs (calledL L x) := by
  have e : txt (lets x) = x := txt_lets x
  conv => lhs; rw [← e]
  rw [strs_set]
  unfold calledL
  rw [hk, Nat.add_sub_cancel]
theorem New.viewS {B : Nat} {W : World} {v : Value} {L : List (List Nat)} {k : Nat} (h : New B W 9 v (strs L)) (hk : L.length = k + 1) : ∃ g cap, v = .slice (some ⟨g, 0, none⟩) (k + 1) cap := by
  rcases h.own.shape with ⟨rfl, h0⟩ | ⟨g, cap, rfl, hcap⟩
  · have := congrArg List.length h0
    rw [strs_len, hk] at this
    simp at this
  · exact ⟨g, cap, by rw [strs_len, hk]⟩

set_option maxRecDepth 100000 in
set_option maxHeartbeats 1000000 in
theorem l4OwnK_any (s : ByteArray) (n : Int) (v : Value) (L : List (List Nat)) (w : World) (h : Txts w v L) (hl : L.length ≤ 1000) :
    Calls Try.prog 83 #[.agg #[.string s, .int .i64 n, v]] w (MethOut s n L w) := by
  obtain ⟨a, cap, rfl, hcap, -⟩ := id h
  obtain ⟨m, hm⟩ : ∃ m, L.length = m := ⟨_, rfl⟩
  have HT := Lib.hid h
  have HR0 := Lib.hid ((RowAt.new w 25 #[.string s, .int .i64 n, .slice a L.length cap]).push (.cells zeroM 25))
  have HZ0 : Hid (RowAt ((w.alloc (.cells #[.string s, .int .i64 n, .slice a L.length cap] 25)).alloc (.cells zeroM 25)) (w.heap.size + 1) 25 zeroM) := Lib.hid (by
    have := RowAt.new (w.alloc (.cells #[.string s, .int .i64 n, .slice a L.length cap] 25)) 25 zeroM
    simpa using this)
  have HB0 := Lib.hid (((Below.refl _ w).alloc (Nat.le_refl _) (.cells #[.string s, .int .i64 n, .slice a L.length cap] 25)).alloc (by simp) (.cells zeroM 25))
  rw [hm] at HT HR0 HZ0 HB0
  rw [hm]
  rw [hm] at hl
  have HML := Lib.hid hm
  clear h hcap hm
  go_enter Try.func83, Try.ntmps83
  go_wp2
  have c0 := HR0.out.cell 0 rfl
  have c1 := HR0.out.cell 1 rfl
  have c2 := HR0.out.cell 2 rfl
  have HLT := Lib.hid HR0.out.lt
  generalize hw0 : (w.alloc (.cells #[.string s, .int .i64 n, .slice a m cap] 25)).alloc (.cells zeroM 25) = w0 at *
  try (rw [show (w.alloc (.cells #[.string s, .int .i64 n, .slice a m cap] 25)).alloc (.cells #[.string ⟨#[]⟩, .int .i64 0, .slice none 0 0] 25) = w0 from hw0])
  clear hw0
  have HS : Hid (∀ W', (RowAt W' w.heap.size 25 #[.string s, .int .i64 n, .slice a m cap] ∧ Below w.heap.size w W') → (W'.cell? ⟨w.heap.size, 0, none⟩ = some (.string s) ∧ W'.cell? ⟨w.heap.size, 1, none⟩ = some (.int .i64 n) ∧ W'.cell? ⟨w.heap.size, 2, none⟩ = some (.slice a m cap) ∧ Below w.heap.size w W')) := Lib.hid (fun W' h => ⟨h.1.cell 0 rfl, h.1.cell 1 rfl, h.1.cell 2 rfl, h.2⟩)
  have HS0 : Hid (w0.drew.cell? ⟨w.heap.size, 0, none⟩ = some (.string s) ∧ w0.drew.cell? ⟨w.heap.size, 1, none⟩ = some (.int .i64 n) ∧ w0.drew.cell? ⟨w.heap.size, 2, none⟩ = some (.slice a m cap) ∧ Below w.heap.size w w0.drew) := Lib.hid (HS.out _ ⟨HR0.out.drewN 1, below_drewN HB0.out 1⟩)
  have HOW : Hid (Calls Try.prog 134 #[.slice a m cap] w0.drew (Copied L w0.drew)) := Lib.hid (by
    rw [← HML.out]
    exact l1OwnS_any _ L w0.drew (by rw [HML.out]; exact HT.out.kept (below_drewN HB0.out 1)) (by rw [HML.out]; exact hl))
  unfold Copied at HOW
  go_region_held3 (fun w' => w'.cell? ⟨w.heap.size, 0, none⟩ = some (.string s) ∧ w'.cell? ⟨w.heap.size, 1, none⟩ = some (.int .i64 n) ∧ w'.cell? ⟨w.heap.size, 2, none⟩ = some (.slice a m cap) ∧ Below w.heap.size w w') (first | assumption | exact HS0.out | exact HSZ.out) (first
    | (go_at_call 134; refine HOW.out.mono ?_; rintro e5 w5 ⟨v5, rfl, hn5, hb5⟩; obtain ⟨a5, k5, hv5, -⟩ := hn5.own.view; rw [strs_len, HML.out] at hv5; subst hv5; have HR5 := Lib.hid ((HR0.out.drewN 1).kept hb5); have HZ5 := Lib.hid ((HZ0.out.drewN 1).kept hb5); have HB5 := Lib.hid ((below_drewN HB0.out 1).trans (hb5.mono (below_drewN HB0.out 1).size)); have HN5 := Lib.hid (hn5.lower (B' := w.heap.size) (below_drewN HB0.out 1).size); have hS5 := HS.out _ ⟨HR5.out, HB5.out⟩; have z0 := HZ5.out.cell 0 rfl; have z1 := HZ5.out.cell 1 rfl; have z2 := HZ5.out.cell 2 rfl; have f0 := HZ5.out.free 0; have f1 := HZ5.out.free 1; have f2 := HZ5.out.free 2; have HSZ := Lib.hid (HS.out _ ⟨((HR5.out.other ⟨w.heap.size + 1, 0, none⟩ (.string s) (by show w.heap.size ≠ w.heap.size + 1; omega)).other ⟨w.heap.size + 1, 1, none⟩ (.int .i64 n) (by show w.heap.size ≠ w.heap.size + 1; omega)).other ⟨w.heap.size + 1, 2, none⟩ (.slice a5 m k5) (by show w.heap.size ≠ w.heap.size + 1; omega), ((HB5.out.setCell (p := ⟨w.heap.size + 1, 0, none⟩) (by show w.heap.size ≤ w.heap.size + 1; omega) (.string s)).setCell (p := ⟨w.heap.size + 1, 1, none⟩) (by show w.heap.size ≤ w.heap.size + 1; omega) (.int .i64 n)).setCell (p := ⟨w.heap.size + 1, 2, none⟩) (by show w.heap.size ≤ w.heap.size + 1; omega) (.slice a5 m k5)⟩))
    | fail)
  have HF := Lib.hid (((HZ5.out.set 0 (.string s)).set 1 (.int .i64 n)).set 2 (.slice a5 m k5))
  have hap := HN5.out.apartRow HZ5.out (by decide)
  have HNF := Lib.hid (((HN5.out.setOther (w.heap.size + 1) 0 (.string s) hap).setOther (w.heap.size + 1) 1 (.int .i64 n) hap).setOther (w.heap.size + 1) 2 (.slice a5 m k5) hap)
  have HBF := Lib.hid HSZ.out.2.2.2
  clear hS5 HSZ HR5 HZ5 HB5 HN5 hn5 hb5 z0 z1 z2 f0 f1 f2 HOW HS0 HS hap
  go_wp2
  try simp only [Exit.inBlock, Exit.then]
  exact bodyPost_ret (results_cell_row rfl _ _ (w.heap.size + 1) 25 _ (0, 0) _ rfl HF.out Try.underlying25 rfl (by kernel_rfl)) rfl ⟨_, rfl, HNF.out, HBF.out⟩


set_option maxRecDepth 100000 in
set_option maxHeartbeats 1000000 in
theorem iCalledLead_no (s : ByteArray) (hs : s.size ≤ maxLen) (n : Int) (v : Value) (L : List (List Nat)) (b q r : ByteArray) (w : World) (h : Txts w v L) (hl : L.length ≤ 2000000) (hk : askK s n L b q r = false) :
    Calls Try.prog 17 #[.agg #[.string s, .int .i64 n, v], .agg #[.string b, .string q], .string r] w (MethK ⟨#[]⟩ 0 [] false w) := by
  obtain ⟨a, cap, rfl, hcap, -⟩ := id h
  have HT := Lib.hid h
  have HR0 := Lib.hid (((RowAt.new w 25 #[.string s, .int .i64 n, .slice a L.length cap]).push (.cells #[.string b, .string q] 27)).push (.cells zeroM 25))
  have HK0 : Hid (RowAt (((w.alloc (.cells #[.string s, .int .i64 n, .slice a L.length cap] 25)).alloc (.cells #[.string b, .string q] 27)).alloc (.cells zeroM 25)) (w.heap.size + 1) 27 #[.string b, .string q]) := Lib.hid (by
    have := (RowAt.new (w.alloc (.cells #[.string s, .int .i64 n, .slice a L.length cap] 25)) 27 #[.string b, .string q]).push (.cells zeroM 25)
    simpa using this)
  have HZ0 : Hid (RowAt (((w.alloc (.cells #[.string s, .int .i64 n, .slice a L.length cap] 25)).alloc (.cells #[.string b, .string q] 27)).alloc (.cells zeroM 25)) (w.heap.size + 1 + 1) 25 zeroM) := Lib.hid (by
    have := RowAt.new ((w.alloc (.cells #[.string s, .int .i64 n, .slice a L.length cap] 25)).alloc (.cells #[.string b, .string q] 27)) 25 zeroM
    simpa using this)
  have HB0 := Lib.hid ((((Below.refl _ w).alloc (Nat.le_refl _) (.cells #[.string s, .int .i64 n, .slice a L.length cap] 25)).alloc (by simp) (.cells #[.string b, .string q] 27)).alloc (by simp; omega) (.cells zeroM 25))
  have HG := Lib.hid (fun w h => iGoodCalls_any s hs n (.slice a L.length cap) L b q w h hl)
  cases hr : kB r
  · have HKF := Lib.hid hr
    clear h hcap hl hk hr hs
    generalize L.length = m at *
    simp only [zeroM] at HR0 HK0 HZ0 HB0
    go_enter Try.func17, Try.ntmps17
    go_wp2_with (first | (go_at_call 79; refine (callKind_any _ _).mono ?_; rintro e2 w2 ⟨rfl, rfl⟩; rw [HKF.out]) | (refine wpList_store_row rfl 25 _ _ rfl _ _ rfl rfl 25 _ (HZ0.out) (by kernel_rfl) rfl (by kernel_rfl) ?_) | fail)
    exact bodyPost_ret (results_row_tmp rfl _ _ (w.heap.size + 1 + 1) 25 _ (0, 0) _ rfl (HZ0.out.row _) Try.underlying25 rfl (by kernel_rfl)) rfl ⟨_, rfl, New.nil _ _ _, below_setRow HB0.out (by omega) _⟩
  · have HKF := Lib.hid hr
    have hg : goodK s n L b q = false := by unfold askK at hk; rwa [hr, Bool.and_true] at hk
    rw [hg] at HG
    clear h hcap hl hk hr hs hg
    generalize L.length = m at *
    simp only [zeroM] at HR0 HK0 HZ0 HB0
    go_enter Try.func17, Try.ntmps17
    go_wp2_with (first | (go_at_call 79; refine (callKind_any _ _).mono ?_; rintro e2 w2 ⟨rfl, rfl⟩; rw [HKF.out]) | (refine wpList_unguardC rfl ?_; (refine wpList_load_row rfl 25 _ rfl _ rfl 25 _ _ _ (HR0.out) Try.underlying25 rfl (by kernel_rfl) ?_)) | (refine wpList_unguardC rfl ?_; (refine wpList_load_row rfl 27 _ rfl _ rfl 27 _ _ _ (HK0.out) Try.underlying27 rfl (by kernel_rfl) ?_)) | fail)
    refine (HG.out _ (HT.out.kept HB0.out)).mono ?_
    rintro e w3 ⟨rfl, hb3⟩
    have HZ3 := Lib.hid (HZ0.out.kept hb3)
    have HB3 := Lib.hid (HB0.out.trans (hb3.mono HB0.out.size))
    clear hb3 HR0 HK0 HZ0 HB0
    go_wp2_with (first | (refine wpList_store_row rfl 25 _ _ rfl _ _ rfl rfl 25 _ (HZ3.out) (by kernel_rfl) rfl (by kernel_rfl) ?_) | fail)
    exact bodyPost_ret (results_row_tmp rfl _ _ (w.heap.size + 1 + 1) 25 _ (0, 0) _ rfl (HZ3.out.row _) Try.underlying25 rfl (by kernel_rfl)) rfl ⟨_, rfl, New.nil _ _ _, below_setRow HB3.out (by omega) _⟩

set_option maxRecDepth 100000 in
set_option maxHeartbeats 1000000 in
theorem iCalledLead_yes (s : ByteArray) (hs : s.size ≤ maxLen) (n : Nat) (v : Value) (L : List (List Nat)) (b q r : ByteArray) (w : World) (h : Txts w v L) (hl : L.length ≤ 2000000) (hg : goodK s n L b q = true) (hk : kB r = true) :
    Calls Try.prog 17 #[.agg #[.string s, .int .i64 n, v], .agg #[.string b, .string q], .string r] w (MethK s n (calledL L (endC L b q (kN r))) true w) := by
  obtain ⟨a, cap, rfl, hcap, -⟩ := id h
  have HT := Lib.hid h
  have HR0 := Lib.hid (((RowAt.new w 25 #[.string s, .int .i64 n, .slice a L.length cap]).push (.cells #[.string b, .string q] 27)).push (.cells zeroM 25))
  have HK0 : Hid (RowAt (((w.alloc (.cells #[.string s, .int .i64 n, .slice a L.length cap] 25)).alloc (.cells #[.string b, .string q] 27)).alloc (.cells zeroM 25)) (w.heap.size + 1) 27 #[.string b, .string q]) := Lib.hid (by
    have := (RowAt.new (w.alloc (.cells #[.string s, .int .i64 n, .slice a L.length cap] 25)) 27 #[.string b, .string q]).push (.cells zeroM 25)
    simpa using this)
  have HZ0 : Hid (RowAt (((w.alloc (.cells #[.string s, .int .i64 n, .slice a L.length cap] 25)).alloc (.cells #[.string b, .string q] 27)).alloc (.cells zeroM 25)) (w.heap.size + 1 + 1) 25 zeroM) := Lib.hid (by
    have := RowAt.new ((w.alloc (.cells #[.string s, .int .i64 n, .slice a L.length cap] 25)).alloc (.cells #[.string b, .string q] 27)) 25 zeroM
    simpa using this)
  have HB0 := Lib.hid ((((Below.refl _ w).alloc (Nat.le_refl _) (.cells #[.string s, .int .i64 n, .slice a L.length cap] 25)).alloc (by simp) (.cells #[.string b, .string q] 27)).alloc (by simp; omega) (.cells zeroM 25))
  have hlen := goodAll_len (goodM_parts (goodK_parts hg).1).1
  have HG := Lib.hid (fun w h => iGoodCalls_any s hs n (.slice a L.length cap) L b q w h hl)
  rw [hg] at HG
  have HE := Lib.hid (fun w h => endings_any s n (.slice a L.length cap) L b q w h hlen.2 hlen.1)
  have HCL := Lib.hid (fun w h => clone_any (.slice a L.length cap) L w h (by omega))
  unfold Copied at HCL
  obtain ⟨k, hk9⟩ : ∃ k, L.length = k + 1 := ⟨L.length - 1, by omega⟩
  have hk2 : k ≤ 39 := by omega
  have hcd : ∀ x, (strs L).set k (.string x) = strs (calledL L x) := fun x => strs_called L x k hk9
  have HCD := Lib.hid hcd
  rcases kB_cases hk with rfl | rfl | rfl
  · rw [show endC L b q (kN ⟨#[112]⟩) = endC L b q 0 from rfl]
    generalize endC L b q 0 = t0 at *
    clear h hcap hl hk hs hg hlen hcd
    generalize hm : L.length = m at *
    subst hk9
    have HLL := Lib.hid hm
    clear hm
    simp only [zeroM] at HR0 HK0 HZ0 HB0
    have ix : ∀ w, (Instr.index 78 (.agg #[.string t0, .string b, .string q]) (.int .i64 0)).run Try.prog w = .ok (.string t0) w := fun _ => by kernel_rfl
    go_enter Try.func17, Try.ntmps17
    go_wp2_with (first | (go_at_call 79; refine (callKind_p _).mono ?_; rintro e2 w2 ⟨rfl, rfl⟩) | (refine wpList_unguardC rfl ?_; (refine wpList_load_row rfl 25 _ rfl _ rfl 25 _ _ _ (HR0.out) Try.underlying25 rfl (by kernel_rfl) ?_)) | (refine wpList_unguardC rfl ?_; (refine wpList_load_row rfl 27 _ rfl _ rfl 27 _ _ _ (HK0.out) Try.underlying27 rfl (by kernel_rfl) ?_)) | fail)
    refine (HG.out _ (HT.out.kept HB0.out)).mono ?_
    rintro e w3 ⟨rfl, hb3⟩
    have HR3 := Lib.hid (HR0.out.kept hb3)
    have HK3 := Lib.hid (HK0.out.kept hb3)
    have HZ3 := Lib.hid (HZ0.out.kept hb3)
    have HB3 := Lib.hid (HB0.out.trans (hb3.mono HB0.out.size))
    clear hb3 HR0 HK0 HZ0 HB0 HG
    go_wp2_with (first | (refine wpList_load_row rfl 25 _ rfl _ rfl 25 _ _ _ (HR3.out) Try.underlying25 rfl (by kernel_rfl) ?_) | (refine wpList_load_row rfl 27 _ rfl _ rfl 27 _ _ _ (HK3.out) Try.underlying27 rfl (by kernel_rfl) ?_) | fail)
    refine (HE.out _ (HT.out.kept HB3.out)).mono ?_
    rintro e w4 ⟨rfl, hb4⟩
    have HR4 := Lib.hid (HR3.out.kept hb4)
    have HZ4 := Lib.hid (HZ3.out.kept hb4)
    have HB4 := Lib.hid (HB3.out.trans (hb4.mono HB3.out.size))
    have c2 := HR4.out.cell 2 rfl
    clear hb4 HR3 HK3 HZ3 HB3 HE
    go_wp2_with fail
    refine (HCL.out _ (HT.out.kept HB4.out)).mono ?_
    rintro e w5 ⟨v5, rfl, hn5, hb5⟩
    obtain ⟨g5, k5, rfl⟩ := hn5.viewS HLL.out
    have HR5 := Lib.hid (HR4.out.kept hb5)
    have HZ5 := Lib.hid (HZ4.out.kept hb5)
    have HN5 := Lib.hid (hn5.lower HB4.out.size)
    have HB5 := Lib.hid (HB4.out.trans (hb5.mono HB4.out.size))
    clear hn5 hb5 HR4 HZ4 HB4 HCL c2 ix
    have d2 := HR5.out.cell 2 rfl
    have f2 := HR5.out.free 2
    have HR6 : Hid (RowAt (w5.setCell ⟨w.heap.size, 2, none⟩ (.slice (some ⟨g5, 0, none⟩) (k + 1) k5)) w.heap.size 25 #[.string s, .int .i64 n, .slice (some ⟨g5, 0, none⟩) (k + 1) k5]) := Lib.hid (HR5.out.set 2 (.slice (some ⟨g5, 0, none⟩) (k + 1) k5))
    have HZ6 := Lib.hid (HZ5.out.other ⟨w.heap.size, 2, none⟩ (.slice (some ⟨g5, 0, none⟩) (k + 1) k5) (by show w.heap.size + 1 + 1 ≠ w.heap.size; omega))
    have HN6 := Lib.hid (HN5.out.setOther w.heap.size 2 (.slice (some ⟨g5, 0, none⟩) (k + 1) k5) (HN5.out.apartRow HR5.out (by decide)))
    have HB6 := Lib.hid (HB5.out.setCell (p := ⟨w.heap.size, 2, none⟩) (Nat.le_refl _) (.slice (some ⟨g5, 0, none⟩) (k + 1) k5))
    clear HN5 HB5 HZ5
    have hg1 : w.heap.size ≠ g5 := fun e => HN6.out.apartRow HR6.out (by decide) (by rw [e]; rfl)
    have hg2 : w.heap.size + 1 + 1 ≠ g5 := fun e => HN6.out.apartRow HZ6.out (by decide) (by rw [e]; rfl)
    have hg3 : w.heap.size ≤ g5 := HN6.out.base g5 rfl
    have e2 := HR6.out.cell 2 rfl
    have z9 := HN6.out.own.cell k _ (strs_at L k (by rw [HLL.out]; omega))
    have f9 := HN6.out.own.free k
    have HR7 := Lib.hid (HR6.out.other ⟨g5, k, none⟩ (.string t0) hg1)
    have HZ7 := Lib.hid (HZ6.out.other ⟨g5, k, none⟩ (.string t0) hg2)
    have hn7 := HN6.out.setC k (.string t0)
    rw [HCD.out] at hn7
    have HN7 := Lib.hid hn7
    have HB7 := Lib.hid (HB6.out.setCell (p := ⟨g5, k, none⟩) hg3 (.string t0))
    have hwp : IntKind.i64.wrap (k : Int) = (k : Int) := IntWalk.i64_in _ (by omega)
    have hk3 : (0 : Int) ≤ k := by omega
    have hk4 : (k : Int) < k + 1 := by omega
    clear hn7 HR6 HZ6 HN6 HB6
    go_wp2_with (first | (refine wpList_load_row rfl 25 _ rfl _ rfl 25 _ _ _ (HR7.out) Try.underlying25 rfl (by kernel_rfl) ?_) | (refine wpList_store_row rfl 25 _ _ rfl _ _ rfl rfl 25 _ (HZ7.out) (by kernel_rfl) rfl (by kernel_rfl) ?_) | fail)
    exact bodyPost_ret (results_row_tmp rfl _ _ (w.heap.size + 1 + 1) 25 _ (0, 0) _ rfl (HZ7.out.row _) Try.underlying25 rfl (by kernel_rfl)) rfl ⟨_, rfl, HN7.out.setRowOther _ _ (HN7.out.apartRow HZ7.out (by decide)), below_setRow HB7.out (by omega) _⟩
  · rw [show endC L b q (kN ⟨#[98]⟩) = b from rfl]
    generalize endC L b q 0 = t0 at *
    clear h hcap hl hk hs hg hlen hcd
    generalize hm : L.length = m at *
    subst hk9
    have HLL := Lib.hid hm
    clear hm
    simp only [zeroM] at HR0 HK0 HZ0 HB0
    have ix : ∀ w, (Instr.index 78 (.agg #[.string t0, .string b, .string q]) (.int .i64 1)).run Try.prog w = .ok (.string b) w := fun _ => by kernel_rfl
    go_enter Try.func17, Try.ntmps17
    go_wp2_with (first | (go_at_call 79; refine (callKind_b _).mono ?_; rintro e2 w2 ⟨rfl, rfl⟩) | (refine wpList_unguardC rfl ?_; (refine wpList_load_row rfl 25 _ rfl _ rfl 25 _ _ _ (HR0.out) Try.underlying25 rfl (by kernel_rfl) ?_)) | (refine wpList_unguardC rfl ?_; (refine wpList_load_row rfl 27 _ rfl _ rfl 27 _ _ _ (HK0.out) Try.underlying27 rfl (by kernel_rfl) ?_)) | fail)
    refine (HG.out _ (HT.out.kept HB0.out)).mono ?_
    rintro e w3 ⟨rfl, hb3⟩
    have HR3 := Lib.hid (HR0.out.kept hb3)
    have HK3 := Lib.hid (HK0.out.kept hb3)
    have HZ3 := Lib.hid (HZ0.out.kept hb3)
    have HB3 := Lib.hid (HB0.out.trans (hb3.mono HB0.out.size))
    clear hb3 HR0 HK0 HZ0 HB0 HG
    go_wp2_with (first | (refine wpList_load_row rfl 25 _ rfl _ rfl 25 _ _ _ (HR3.out) Try.underlying25 rfl (by kernel_rfl) ?_) | (refine wpList_load_row rfl 27 _ rfl _ rfl 27 _ _ _ (HK3.out) Try.underlying27 rfl (by kernel_rfl) ?_) | fail)
    refine (HE.out _ (HT.out.kept HB3.out)).mono ?_
    rintro e w4 ⟨rfl, hb4⟩
    have HR4 := Lib.hid (HR3.out.kept hb4)
    have HZ4 := Lib.hid (HZ3.out.kept hb4)
    have HB4 := Lib.hid (HB3.out.trans (hb4.mono HB3.out.size))
    have c2 := HR4.out.cell 2 rfl
    clear hb4 HR3 HK3 HZ3 HB3 HE
    go_wp2_with fail
    refine (HCL.out _ (HT.out.kept HB4.out)).mono ?_
    rintro e w5 ⟨v5, rfl, hn5, hb5⟩
    obtain ⟨g5, k5, rfl⟩ := hn5.viewS HLL.out
    have HR5 := Lib.hid (HR4.out.kept hb5)
    have HZ5 := Lib.hid (HZ4.out.kept hb5)
    have HN5 := Lib.hid (hn5.lower HB4.out.size)
    have HB5 := Lib.hid (HB4.out.trans (hb5.mono HB4.out.size))
    clear hn5 hb5 HR4 HZ4 HB4 HCL c2 ix
    have d2 := HR5.out.cell 2 rfl
    have f2 := HR5.out.free 2
    have HR6 : Hid (RowAt (w5.setCell ⟨w.heap.size, 2, none⟩ (.slice (some ⟨g5, 0, none⟩) (k + 1) k5)) w.heap.size 25 #[.string s, .int .i64 n, .slice (some ⟨g5, 0, none⟩) (k + 1) k5]) := Lib.hid (HR5.out.set 2 (.slice (some ⟨g5, 0, none⟩) (k + 1) k5))
    have HZ6 := Lib.hid (HZ5.out.other ⟨w.heap.size, 2, none⟩ (.slice (some ⟨g5, 0, none⟩) (k + 1) k5) (by show w.heap.size + 1 + 1 ≠ w.heap.size; omega))
    have HN6 := Lib.hid (HN5.out.setOther w.heap.size 2 (.slice (some ⟨g5, 0, none⟩) (k + 1) k5) (HN5.out.apartRow HR5.out (by decide)))
    have HB6 := Lib.hid (HB5.out.setCell (p := ⟨w.heap.size, 2, none⟩) (Nat.le_refl _) (.slice (some ⟨g5, 0, none⟩) (k + 1) k5))
    clear HN5 HB5 HZ5
    have hg1 : w.heap.size ≠ g5 := fun e => HN6.out.apartRow HR6.out (by decide) (by rw [e]; rfl)
    have hg2 : w.heap.size + 1 + 1 ≠ g5 := fun e => HN6.out.apartRow HZ6.out (by decide) (by rw [e]; rfl)
    have hg3 : w.heap.size ≤ g5 := HN6.out.base g5 rfl
    have e2 := HR6.out.cell 2 rfl
    have z9 := HN6.out.own.cell k _ (strs_at L k (by rw [HLL.out]; omega))
    have f9 := HN6.out.own.free k
    have HR7 := Lib.hid (HR6.out.other ⟨g5, k, none⟩ (.string b) hg1)
    have HZ7 := Lib.hid (HZ6.out.other ⟨g5, k, none⟩ (.string b) hg2)
    have hn7 := HN6.out.setC k (.string b)
    rw [HCD.out] at hn7
    have HN7 := Lib.hid hn7
    have HB7 := Lib.hid (HB6.out.setCell (p := ⟨g5, k, none⟩) hg3 (.string b))
    have hwp : IntKind.i64.wrap (k : Int) = (k : Int) := IntWalk.i64_in _ (by omega)
    have hk3 : (0 : Int) ≤ k := by omega
    have hk4 : (k : Int) < k + 1 := by omega
    clear hn7 HR6 HZ6 HN6 HB6
    go_wp2_with (first | (refine wpList_load_row rfl 25 _ rfl _ rfl 25 _ _ _ (HR7.out) Try.underlying25 rfl (by kernel_rfl) ?_) | (refine wpList_store_row rfl 25 _ _ rfl _ _ rfl rfl 25 _ (HZ7.out) (by kernel_rfl) rfl (by kernel_rfl) ?_) | fail)
    exact bodyPost_ret (results_row_tmp rfl _ _ (w.heap.size + 1 + 1) 25 _ (0, 0) _ rfl (HZ7.out.row _) Try.underlying25 rfl (by kernel_rfl)) rfl ⟨_, rfl, HN7.out.setRowOther _ _ (HN7.out.apartRow HZ7.out (by decide)), below_setRow HB7.out (by omega) _⟩
  · rw [show endC L b q (kN ⟨#[115]⟩) = q from rfl]
    generalize endC L b q 0 = t0 at *
    clear h hcap hl hk hs hg hlen hcd
    generalize hm : L.length = m at *
    subst hk9
    have HLL := Lib.hid hm
    clear hm
    simp only [zeroM] at HR0 HK0 HZ0 HB0
    have ix : ∀ w, (Instr.index 78 (.agg #[.string t0, .string b, .string q]) (.int .i64 2)).run Try.prog w = .ok (.string q) w := fun _ => by kernel_rfl
    go_enter Try.func17, Try.ntmps17
    go_wp2_with (first | (go_at_call 79; refine (callKind_s _).mono ?_; rintro e2 w2 ⟨rfl, rfl⟩) | (refine wpList_unguardC rfl ?_; (refine wpList_load_row rfl 25 _ rfl _ rfl 25 _ _ _ (HR0.out) Try.underlying25 rfl (by kernel_rfl) ?_)) | (refine wpList_unguardC rfl ?_; (refine wpList_load_row rfl 27 _ rfl _ rfl 27 _ _ _ (HK0.out) Try.underlying27 rfl (by kernel_rfl) ?_)) | fail)
    refine (HG.out _ (HT.out.kept HB0.out)).mono ?_
    rintro e w3 ⟨rfl, hb3⟩
    have HR3 := Lib.hid (HR0.out.kept hb3)
    have HK3 := Lib.hid (HK0.out.kept hb3)
    have HZ3 := Lib.hid (HZ0.out.kept hb3)
    have HB3 := Lib.hid (HB0.out.trans (hb3.mono HB0.out.size))
    clear hb3 HR0 HK0 HZ0 HB0 HG
    go_wp2_with (first | (refine wpList_load_row rfl 25 _ rfl _ rfl 25 _ _ _ (HR3.out) Try.underlying25 rfl (by kernel_rfl) ?_) | (refine wpList_load_row rfl 27 _ rfl _ rfl 27 _ _ _ (HK3.out) Try.underlying27 rfl (by kernel_rfl) ?_) | fail)
    refine (HE.out _ (HT.out.kept HB3.out)).mono ?_
    rintro e w4 ⟨rfl, hb4⟩
    have HR4 := Lib.hid (HR3.out.kept hb4)
    have HZ4 := Lib.hid (HZ3.out.kept hb4)
    have HB4 := Lib.hid (HB3.out.trans (hb4.mono HB3.out.size))
    have c2 := HR4.out.cell 2 rfl
    clear hb4 HR3 HK3 HZ3 HB3 HE
    go_wp2_with fail
    refine (HCL.out _ (HT.out.kept HB4.out)).mono ?_
    rintro e w5 ⟨v5, rfl, hn5, hb5⟩
    obtain ⟨g5, k5, rfl⟩ := hn5.viewS HLL.out
    have HR5 := Lib.hid (HR4.out.kept hb5)
    have HZ5 := Lib.hid (HZ4.out.kept hb5)
    have HN5 := Lib.hid (hn5.lower HB4.out.size)
    have HB5 := Lib.hid (HB4.out.trans (hb5.mono HB4.out.size))
    clear hn5 hb5 HR4 HZ4 HB4 HCL c2 ix
    have d2 := HR5.out.cell 2 rfl
    have f2 := HR5.out.free 2
    have HR6 : Hid (RowAt (w5.setCell ⟨w.heap.size, 2, none⟩ (.slice (some ⟨g5, 0, none⟩) (k + 1) k5)) w.heap.size 25 #[.string s, .int .i64 n, .slice (some ⟨g5, 0, none⟩) (k + 1) k5]) := Lib.hid (HR5.out.set 2 (.slice (some ⟨g5, 0, none⟩) (k + 1) k5))
    have HZ6 := Lib.hid (HZ5.out.other ⟨w.heap.size, 2, none⟩ (.slice (some ⟨g5, 0, none⟩) (k + 1) k5) (by show w.heap.size + 1 + 1 ≠ w.heap.size; omega))
    have HN6 := Lib.hid (HN5.out.setOther w.heap.size 2 (.slice (some ⟨g5, 0, none⟩) (k + 1) k5) (HN5.out.apartRow HR5.out (by decide)))
    have HB6 := Lib.hid (HB5.out.setCell (p := ⟨w.heap.size, 2, none⟩) (Nat.le_refl _) (.slice (some ⟨g5, 0, none⟩) (k + 1) k5))
    clear HN5 HB5 HZ5
    have hg1 : w.heap.size ≠ g5 := fun e => HN6.out.apartRow HR6.out (by decide) (by rw [e]; rfl)
    have hg2 : w.heap.size + 1 + 1 ≠ g5 := fun e => HN6.out.apartRow HZ6.out (by decide) (by rw [e]; rfl)
    have hg3 : w.heap.size ≤ g5 := HN6.out.base g5 rfl
    have e2 := HR6.out.cell 2 rfl
    have z9 := HN6.out.own.cell k _ (strs_at L k (by rw [HLL.out]; omega))
    have f9 := HN6.out.own.free k
    have HR7 := Lib.hid (HR6.out.other ⟨g5, k, none⟩ (.string q) hg1)
    have HZ7 := Lib.hid (HZ6.out.other ⟨g5, k, none⟩ (.string q) hg2)
    have hn7 := HN6.out.setC k (.string q)
    rw [HCD.out] at hn7
    have HN7 := Lib.hid hn7
    have HB7 := Lib.hid (HB6.out.setCell (p := ⟨g5, k, none⟩) hg3 (.string q))
    have hwp : IntKind.i64.wrap (k : Int) = (k : Int) := IntWalk.i64_in _ (by omega)
    have hk3 : (0 : Int) ≤ k := by omega
    have hk4 : (k : Int) < k + 1 := by omega
    clear hn7 HR6 HZ6 HN6 HB6
    go_wp2_with (first | (refine wpList_load_row rfl 25 _ rfl _ rfl 25 _ _ _ (HR7.out) Try.underlying25 rfl (by kernel_rfl) ?_) | (refine wpList_store_row rfl 25 _ _ rfl _ _ rfl rfl 25 _ (HZ7.out) (by kernel_rfl) rfl (by kernel_rfl) ?_) | fail)
    exact bodyPost_ret (results_row_tmp rfl _ _ (w.heap.size + 1 + 1) 25 _ (0, 0) _ rfl (HZ7.out.row _) Try.underlying25 rfl (by kernel_rfl)) rfl ⟨_, rfl, HN7.out.setRowOther _ _ (HN7.out.apartRow HZ7.out (by decide)), below_setRow HB7.out (by omega) _⟩

set_option maxRecDepth 100000 in
set_option maxHeartbeats 1000000 in
theorem sCalledLead_no (s : ByteArray) (hs : s.size ≤ maxLen) (n : Int) (v : Value) (L : List (List Nat)) (b q r : ByteArray) (hb : b.size ≤ maxLen) (hq : q.size ≤ maxLen) (w : World) (h : Txts w v L) (hl : L.length ≤ 2000000) (hsm : Small L) (hk : askK s n L b q r = false) :
    Calls Try.prog 18 #[.agg #[.string s, .int .i64 n, v], .agg #[.string b, .string q], .string r] w (MethK ⟨#[]⟩ 0 [] false w) := by
  obtain ⟨a, cap, rfl, hcap, -⟩ := id h
  have HT := Lib.hid h
  have HR0 := Lib.hid (((RowAt.new w 25 #[.string s, .int .i64 n, .slice a L.length cap]).push (.cells #[.string b, .string q] 27)).push (.cells zeroM 25))
  have HK0 : Hid (RowAt (((w.alloc (.cells #[.string s, .int .i64 n, .slice a L.length cap] 25)).alloc (.cells #[.string b, .string q] 27)).alloc (.cells zeroM 25)) (w.heap.size + 1) 27 #[.string b, .string q]) := Lib.hid (by
    have := (RowAt.new (w.alloc (.cells #[.string s, .int .i64 n, .slice a L.length cap] 25)) 27 #[.string b, .string q]).push (.cells zeroM 25)
    simpa using this)
  have HZ0 : Hid (RowAt (((w.alloc (.cells #[.string s, .int .i64 n, .slice a L.length cap] 25)).alloc (.cells #[.string b, .string q] 27)).alloc (.cells zeroM 25)) (w.heap.size + 1 + 1) 25 zeroM) := Lib.hid (by
    have := RowAt.new ((w.alloc (.cells #[.string s, .int .i64 n, .slice a L.length cap] 25)).alloc (.cells #[.string b, .string q] 27)) 25 zeroM
    simpa using this)
  have HB0 := Lib.hid ((((Below.refl _ w).alloc (Nat.le_refl _) (.cells #[.string s, .int .i64 n, .slice a L.length cap] 25)).alloc (by simp) (.cells #[.string b, .string q] 27)).alloc (by simp; omega) (.cells zeroM 25))
  have HA := Lib.hid (fun w h => l8Asked_any s hs n (.slice a L.length cap) L b q r hb hq w h hl hsm)
  rw [hk] at HA
  clear h hcap hl hsm hb hq hk hs
  generalize L.length = m at *
  simp only [zeroM] at HR0 HK0 HZ0 HB0
  go_enter Try.func18, Try.ntmps18
  go_wp2_with (first | (refine wpList_load_row rfl 25 _ rfl _ rfl 25 _ _ _ (HR0.out) Try.underlying25 rfl (by kernel_rfl) ?_) | (refine wpList_load_row rfl 27 _ rfl _ rfl 27 _ _ _ (HK0.out) Try.underlying27 rfl (by kernel_rfl) ?_) | fail)
  refine (HA.out _ (HT.out.kept HB0.out)).mono ?_
  rintro e w1 ⟨rfl, hb1⟩
  have HZ1 := Lib.hid (HZ0.out.kept hb1)
  have HR1 := Lib.hid (HR0.out.kept hb1)
  have HK1 := Lib.hid (HK0.out.kept hb1)
  have HB1 := Lib.hid (HB0.out.trans (hb1.mono HB0.out.size))
  clear hb1 HR0 HK0 HB0
  go_wp2_with (first | (refine wpList_store_row rfl 25 _ _ rfl _ _ rfl rfl 25 _ (HZ1.out) (by kernel_rfl) rfl (by kernel_rfl) ?_) | fail)
  exact bodyPost_ret (results_row_tmp rfl _ _ (w.heap.size + 1 + 1) 25 _ (0, 0) _ rfl (HZ1.out.row _) Try.underlying25 rfl (by kernel_rfl)) rfl ⟨_, rfl, New.nil _ _ _, below_setRow HB1.out (by omega) _⟩

set_option maxRecDepth 100000 in
set_option maxHeartbeats 1000000 in
theorem sCalledLead_yes (s : ByteArray) (hs : s.size ≤ maxLen) (n : Nat) (v : Value) (L : List (List Nat)) (b q r : ByteArray) (hb : b.size ≤ maxLen) (hq : q.size ≤ maxLen) (w : World) (h : Txts w v L) (hl : L.length ≤ 2000000) (hsm : Small L) (hg : goodK s n L b q = true) (hk : kB r = true) :
    Calls Try.prog 18 #[.agg #[.string s, .int .i64 n, v], .agg #[.string b, .string q], .string r] w (MethK s n (calledL L (endC L b q (kN r))) true w) := by
  obtain ⟨a, cap, rfl, hcap, -⟩ := id h
  have HT := Lib.hid h
  have HR0 := Lib.hid (((RowAt.new w 25 #[.string s, .int .i64 n, .slice a L.length cap]).push (.cells #[.string b, .string q] 27)).push (.cells zeroM 25))
  have HK0 : Hid (RowAt (((w.alloc (.cells #[.string s, .int .i64 n, .slice a L.length cap] 25)).alloc (.cells #[.string b, .string q] 27)).alloc (.cells zeroM 25)) (w.heap.size + 1) 27 #[.string b, .string q]) := Lib.hid (by
    have := (RowAt.new (w.alloc (.cells #[.string s, .int .i64 n, .slice a L.length cap] 25)) 27 #[.string b, .string q]).push (.cells zeroM 25)
    simpa using this)
  have HZ0 : Hid (RowAt (((w.alloc (.cells #[.string s, .int .i64 n, .slice a L.length cap] 25)).alloc (.cells #[.string b, .string q] 27)).alloc (.cells zeroM 25)) (w.heap.size + 1 + 1) 25 zeroM) := Lib.hid (by
    have := RowAt.new ((w.alloc (.cells #[.string s, .int .i64 n, .slice a L.length cap] 25)).alloc (.cells #[.string b, .string q] 27)) 25 zeroM
    simpa using this)
  have HB0 := Lib.hid ((((Below.refl _ w).alloc (Nat.le_refl _) (.cells #[.string s, .int .i64 n, .slice a L.length cap] 25)).alloc (by simp) (.cells #[.string b, .string q] 27)).alloc (by simp; omega) (.cells zeroM 25))
  have HA := Lib.hid (fun w h => l8Asked_any s hs n (.slice a L.length cap) L b q r hb hq w h hl hsm)
  rw [show askK s n L b q r = true by unfold askK; rw [hg, hk]; rfl] at HA
  have hlen := goodAll_len (goodM_parts (goodK_parts hg).1).1
  have HCH := Lib.hid (fun w h => l8Change_any s n (.slice a L.length cap) L b q r hk hlen.1 hlen.2 w h)
  have HOW := Lib.hid (fun w h => l4OwnK_any s n (.slice a L.length cap) L w h (by omega))
  unfold MethOut at HOW
  obtain ⟨k, hk9⟩ : ∃ k, L.length = k + 1 := ⟨L.length - 1, by omega⟩
  have hk2 : k ≤ 39 := by omega
  have hcd : ∀ x, (strs L).set k (.string x) = strs (calledL L x) := fun x => strs_called L x k hk9
  have HCD := Lib.hid hcd
  generalize endC L b q (kN r) = x at *
  clear h hcap hl hsm hb hq hk hs hg hlen hcd
  generalize hm : L.length = m at *
  subst hk9
  have HLL := Lib.hid hm
  clear hm
  simp only [zeroM] at HR0 HK0 HZ0 HB0
  go_enter Try.func18, Try.ntmps18
  go_wp2_with (first | (refine wpList_load_row rfl 25 _ rfl _ rfl 25 _ _ _ (HR0.out) Try.underlying25 rfl (by kernel_rfl) ?_) | (refine wpList_load_row rfl 27 _ rfl _ rfl 27 _ _ _ (HK0.out) Try.underlying27 rfl (by kernel_rfl) ?_) | fail)
  refine (HA.out _ (HT.out.kept HB0.out)).mono ?_
  rintro e w1 ⟨rfl, hb1⟩
  have HZ1 := Lib.hid (HZ0.out.kept hb1)
  have HR1 := Lib.hid (HR0.out.kept hb1)
  have HK1 := Lib.hid (HK0.out.kept hb1)
  have HB1 := Lib.hid (HB0.out.trans (hb1.mono HB0.out.size))
  clear hb1 HR0 HK0 HB0
  go_wp2_with (first | (refine wpList_load_row rfl 25 _ rfl _ rfl 25 _ _ _ (HR1.out) Try.underlying25 rfl (by kernel_rfl) ?_) | fail)
  refine (HOW.out _ (HT.out.kept HB1.out)).mono ?_
  rintro e w2 ⟨v2, rfl, hn2, hb2⟩
  obtain ⟨g2, k2, rfl⟩ := hn2.viewS HLL.out
  have HZ2 := Lib.hid (HZ1.out.kept hb2)
  have HN2 := Lib.hid (hn2.lower HB1.out.size)
  have HG2 := Lib.hid (hn2.own.lt g2 rfl)
  have HG1 := Lib.hid (hn2.base g2 rfl)
  have HR1lt := Lib.hid HR1.out.lt
  have HK1lt := Lib.hid HK1.out.lt
  have HZ1lt := Lib.hid HZ1.out.lt
  have HB1s := Lib.hid HB1.out.size
  have HR2 := Lib.hid (HR1.out.kept hb2)
  have HK2 := Lib.hid (HK1.out.kept hb2)
  have HB2 := Lib.hid (HB1.out.trans (hb2.mono HB1.out.size))
  clear hb2 HR1 HK1 HB1
  have HO3 := Lib.hid (RowAt.new w2 25 #[.string s, .int .i64 n, .slice (some ⟨g2, 0, none⟩) (k + 1) k2])
  have HR3 := Lib.hid (HR2.out.push (.cells #[.string s, .int .i64 n, .slice (some ⟨g2, 0, none⟩) (k + 1) k2] 25))
  have HK3 := Lib.hid (HK2.out.push (.cells #[.string s, .int .i64 n, .slice (some ⟨g2, 0, none⟩) (k + 1) k2] 25))
  have HZ3 := Lib.hid (HZ2.out.push (.cells #[.string s, .int .i64 n, .slice (some ⟨g2, 0, none⟩) (k + 1) k2] 25))
  have HN3 := Lib.hid (HN2.out.kept ((Below.refl _ _).alloc (Nat.le_refl _) (.cells #[.string s, .int .i64 n, .slice (some ⟨g2, 0, none⟩) (k + 1) k2] 25)))
  have HB3 := Lib.hid (HB2.out.alloc HB2.out.size (.cells #[.string s, .int .i64 n, .slice (some ⟨g2, 0, none⟩) (k + 1) k2] 25))
  clear HR2 HK2 HZ2 HN2 HB2 hn2
  go_wp2_with (first | (refine wpList_store_row rfl 25 _ _ rfl _ _ rfl rfl 25 _ (heap_alloc_new _ _) (by kernel_rfl) rfl (by kernel_rfl) ?_; rw [World.setRow_alloc_new]) | fail)
  generalize w2.alloc (.cells #[.string s, .int .i64 n, .slice (some ⟨g2, 0, none⟩) (k + 1) k2] 25) = w3 at *
  have hn1 : w2.heap.size ≠ g2 := by have := HG2.out; omega
  have hn2 : w.heap.size ≠ g2 := by have := HR1lt.out; have := HG1.out; omega
  have hn3 : w.heap.size + 1 ≠ g2 := by have := HK1lt.out; have := HG1.out; omega
  have hn4 : w.heap.size + 1 + 1 ≠ g2 := by have := HZ1lt.out; have := HG1.out; omega
  have hn5 : w.heap.size ≤ g2 := by have := HB1s.out; have := HG1.out; omega
  have hwp : IntKind.i64.wrap (k : Int) = (k : Int) := IntWalk.i64_in _ (by omega)
  have hk3 : (0 : Int) ≤ k := by omega
  have hk4 : (k : Int) < k + 1 := by omega
  have HXA : Hid (∀ W', Below w3.heap.size w3 W' → (W'.cell? ⟨w2.heap.size, 2, none⟩ = some (.slice (some ⟨g2, 0, none⟩) (k + 1) k2) ∧ W'.cell? ⟨w.heap.size, 0, none⟩ = some (.string s) ∧ W'.cell? ⟨w.heap.size, 1, none⟩ = some (.int .i64 n) ∧ W'.cell? ⟨w.heap.size, 2, none⟩ = some (.slice a (k + 1) cap) ∧ W'.cell? ⟨w.heap.size + 1, 0, none⟩ = some (.string b) ∧ W'.cell? ⟨w.heap.size + 1, 1, none⟩ = some (.string q))) := Lib.hid (fun W' h => by
    have ho := HO3.out.keep h HO3.out.lt
    have hr := HR3.out.keep h HR3.out.lt
    have hk := HK3.out.keep h HK3.out.lt
    exact ⟨ho.cell 2 rfl, hr.cell 0 rfl, hr.cell 1 rfl, hr.cell 2 rfl, hk.cell 0 rfl, hk.cell 1 rfl⟩)
  have HXB : Hid (∀ W', Below w3.heap.size w3 W' → ((W'.setCell ⟨g2, k, none⟩ (.string x)).cell? ⟨w2.heap.size, 2, none⟩ = some (.slice (some ⟨g2, 0, none⟩) (k + 1) k2) ∧ (W'.setCell ⟨g2, k, none⟩ (.string x)).cell? ⟨w.heap.size, 0, none⟩ = some (.string s) ∧ (W'.setCell ⟨g2, k, none⟩ (.string x)).cell? ⟨w.heap.size, 1, none⟩ = some (.int .i64 n) ∧ (W'.setCell ⟨g2, k, none⟩ (.string x)).cell? ⟨w.heap.size, 2, none⟩ = some (.slice a (k + 1) cap) ∧ (W'.setCell ⟨g2, k, none⟩ (.string x)).cell? ⟨w.heap.size + 1, 0, none⟩ = some (.string b) ∧ (W'.setCell ⟨g2, k, none⟩ (.string x)).cell? ⟨w.heap.size + 1, 1, none⟩ = some (.string q))) := Lib.hid (fun W' h => by
    have ho := (HO3.out.keep h HO3.out.lt).other ⟨g2, k, none⟩ (.string x) hn1
    have hr := (HR3.out.keep h HR3.out.lt).other ⟨g2, k, none⟩ (.string x) hn2
    have hk := (HK3.out.keep h HK3.out.lt).other ⟨g2, k, none⟩ (.string x) hn3
    exact ⟨ho.cell 2 rfl, hr.cell 0 rfl, hr.cell 1 rfl, hr.cell 2 rfl, hk.cell 0 rfl, hk.cell 1 rfl⟩)
  have HF : Hid (∀ W', Below w3.heap.size w3 W' → Calls Try.prog 84 #[.agg #[.string s, .int .i64 n, .slice a (k + 1) cap], .agg #[.string b, .string q], .string r] W' fun e w' => e = .returned (.string x) ∧ Below w3.heap.size w3 w') := Lib.hid (fun W' h => (HCH.out W' ((HT.out.kept HB3.out).kept h)).mono fun e w' hw => ⟨hw.1, h.trans (hw.2.mono h.size)⟩)
  go_region_held3 (fun w' => w'.cell? ⟨w2.heap.size, 2, none⟩ = some (.slice (some ⟨g2, 0, none⟩) (k + 1) k2) ∧ w'.cell? ⟨w.heap.size, 0, none⟩ = some (.string s) ∧ w'.cell? ⟨w.heap.size, 1, none⟩ = some (.int .i64 n) ∧ w'.cell? ⟨w.heap.size, 2, none⟩ = some (.slice a (k + 1) cap) ∧ w'.cell? ⟨w.heap.size + 1, 0, none⟩ = some (.string b) ∧ w'.cell? ⟨w.heap.size + 1, 1, none⟩ = some (.string q)) (first | assumption | exact HXA.out _ (Below.refl _ _).drew | exact HXB.out _ hb5) (first
    | (go_at_call 84; refine (HF.out _ (by first | exact (Below.refl _ _).drew | exact Below.refl _ _)).mono ?_; rintro e5 w5 ⟨rfl, hb5⟩; have hS5 := HXA.out _ hb5; have z9 := (HN3.out.kept hb5).own.cell k _ (strs_at L k (by rw [HLL.out]; omega)); have f9 := (HN3.out.kept hb5).own.free k) | fail)
  have HO6 := Lib.hid ((HO3.out.kept hb5).other ⟨g2, k, none⟩ (.string x) hn1)
  have HZ6 := Lib.hid ((HZ3.out.kept hb5).other ⟨g2, k, none⟩ (.string x) hn4)
  have hn6 := (HN3.out.kept hb5).setC k (.string x)
  rw [HCD.out] at hn6
  have HN6 := Lib.hid hn6
  have HB6 := Lib.hid ((HB3.out.trans (hb5.mono HB3.out.size)).setCell (p := ⟨g2, k, none⟩) hn5 (.string x))
  clear hn6 hS5 z9 f9 hb5 HXA HXB HF HO3 HZ3 HN3 HB3 HR3 HK3
  go_wp2_with (first | (refine wpList_load_row rfl 25 _ rfl _ rfl 25 _ _ _ (HO6.out) Try.underlying25 rfl (by kernel_rfl) ?_) | (refine wpList_store_row rfl 25 _ _ rfl _ _ rfl rfl 25 _ (HZ6.out) (by kernel_rfl) rfl (by kernel_rfl) ?_) | fail)
  exact bodyPost_ret (results_row_tmp rfl _ _ (w.heap.size + 1 + 1) 25 _ (0, 0) _ rfl (HZ6.out.row _) Try.underlying25 rfl (by kernel_rfl)) rfl ⟨_, rfl, HN6.out.setRowOther _ _ (HN6.out.apartRow HZ6.out (by decide)), below_setRow HB6.out (by omega) _⟩
theorem bothCalledLead (s : ByteArray) (hs : s.size ≤ maxLen) (n : Int) (L : List (List Nat)) (hl : L.length ≤ 2000000) (hsm : Small L) (b q : ByteArray) (hb : b.size ≤ maxLen) (hq : q.size ≤ maxLen) (r : ByteArray) (hr : r.size ≤ maxLen) :
    ∃ (sp : ByteArray) (np : Int) (P : List (List Nat)) (f : Bool), P.length ≤ 1000 ∧ (∀ u w, Txts w u L → Calls Try.prog 17 #[.agg #[.string s, .int .i64 n, u], .agg #[.string b, .string q], .string r] w (MethK sp np P f w)) ∧
      (∀ u w, Txts w u L → Calls Try.prog 18 #[.agg #[.string s, .int .i64 n, u], .agg #[.string b, .string q], .string r] w (MethK sp np P f w)) := by
  cases hk : askK s n L b q r
  · exact ⟨_, _, [], _, by simp, fun u w h => iCalledLead_no s hs n u L b q r w h hl hk, fun u w h => sCalledLead_no s hs n u L b q r hb hq w h hl hsm hk⟩
  · unfold askK at hk
    rw [Bool.and_eq_true] at hk
    obtain ⟨k, rfl⟩ := goodK_cast hk.1
    have h40 := (goodAll_len (goodM_parts (goodK_parts hk.1).1).1).2
    exact ⟨s, (k : Int), _, _, by unfold calledL; rw [List.length_set]; omega, fun u w h => iCalledLead_yes s hs k u L b q r w h hl hk.1 hk.2, fun u w h => sCalledLead_yes s hs k u L b q r hb hq w h hl hsm hk.1 hk.2⟩
end Go.Proofs.Ytkhglknpcajmiaa
