/- Methods in the program: leadOf, LeadHead, LeadsIn, HuntBells. -/
import Derived.Test.YtpfnamiacagocaaM6
namespace Go.Proofs.Ytpfnamiacagocaa
open Go.RowKit
set_option linter.unusedSimpArgs false
set_option linter.unusedVariables false

/-- a lead's value -/
def leadV (u : Value) (f : Nat → Nat) : Array Value := #[u, .int .u8 (f 0), .int .u8 (f 1), .int .u8 (f 2), .int .u8 (f 3), .int .u8 (f 4), .int .u8 (f 5), .int .u8 (f 6), .int .u8 (f 7)]
def zero9 : Array Value := #[.slice none 0 0, .int .u8 0, .int .u8 0, .int .u8 0, .int .u8 0, .int .u8 0, .int .u8 0, .int .u8 0, .int .u8 0]
theorem goodM_parts {s : ByteArray} {n : Int} {L : List (List Nat)} (h : goodM s n L = true) : goodAll n L = true ∧ nameB s = true := by
  unfold goodM at h
  rwa [Bool.and_eq_true] at h

def LeadYes (f : Nat → Nat) (cs : List (Nat → Nat)) (w : World) (e : Ending) (w' : World) : Prop :=
  ∃ u, e = .returned (.tuple #[.agg (leadV u f), .bool true]) ∧ NewD w.heap.size w' u cs ∧ Below w.heap.size w w'

set_option maxRecDepth 100000 in
set_option maxHeartbeats 1000000 in
theorem leadOf_no (s : ByteArray) (hs : s.size ≤ maxLen) (n : Int) (v : Value) (L : List (List Nat)) (w : World) (h : Txts w v L) (hl : L.length ≤ 2000000) (hg : goodM s n L = false) :
    Calls Try.prog 60 #[.agg #[.string s, .int .i64 n, v]] w fun e w' => e = .returned (.tuple #[.agg zero9, .bool false]) ∧ Below w.heap.size w w' := by
  obtain ⟨a, cap, rfl, hcap, _⟩ := id h
  have HT := Lib.hid h
  have HR0 := Lib.hid ((RowAt.new w 26 #[.string s, .int .i64 n, .slice a L.length cap]).push (.cells zero9 70))
  have HZ0 : Hid (RowAt ((w.alloc (.cells #[.string s, .int .i64 n, .slice a L.length cap] 26)).alloc (.cells zero9 70)) (w.heap.size + 1) 70 zero9) := Lib.hid (by
    have := RowAt.new (w.alloc (.cells #[.string s, .int .i64 n, .slice a L.length cap] 26)) 70 zero9
    simpa using this)
  have HB0 := Lib.hid (((Below.refl _ w).alloc (Nat.le_refl _) (.cells #[.string s, .int .i64 n, .slice a L.length cap] 26)).alloc (by simp) (.cells zero9 70))
  have c1 := HR0.out.cell 1 rfl
  have c2 := HR0.out.cell 2 rfl
  clear h hcap
  have HG := Lib.hid hg
  clear hg
  go_enter Try.func60, Try.ntmps60
  go_wp2_with fail
  refine (changeListOf_any n _ L _ (HT.out.kept (HB0.out)) hl).mono ?_
  rintro e w1 ⟨v1, rfl, hn1, hb1⟩
  have HR1 := Lib.hid (HR0.out.kept hb1)
  have HZ1 := Lib.hid (HZ0.out.kept hb1)
  have HB1 := Lib.hid (HB0.out.trans (hb1.mono HB0.out.size))
  have d0 := HR1.out.cell 0 rfl
  obtain ⟨a1, k1, rfl, -, -⟩ := hn1.view rfl
  clear hn1 hb1 HR0 HZ0 HB0 c1 c2 HT
  generalize (listF n L).length = l1 at *
  cases hga : goodAll n L
  · clear hga HG
    go_wp2_with (first | (refine wpList_store_row rfl 70 _ _ rfl _ _ rfl rfl 70 _ (HZ1.out) (by kernel_rfl) rfl (by kernel_rfl) ?_) | fail)
    exact bodyPost_ret (results_row_tmp rfl _ _ (w.heap.size + 1) 70 _ (0, 0) _ rfl (HZ1.out.row _) Try.underlying70 rfl (by kernel_rfl)) rfl ⟨rfl, below_setRow HB1.out (by omega) _⟩
  · have hn : nameB s = false := by have := HG.out; unfold goodM at this; rwa [hga, Bool.true_and] at this
    clear hga HG
    go_wp2_with (first | (go_at_call 98; refine (goodName_any s hs _).mono ?_; rintro e w2 ⟨rfl, rfl⟩; rw [hn]) | (refine wpList_store_row rfl 70 _ _ rfl _ _ rfl rfl 70 _ (HZ1.out) (by kernel_rfl) rfl (by kernel_rfl) ?_) | fail)
    exact bodyPost_ret (results_row_tmp rfl _ _ (w.heap.size + 1) 70 _ (0, 0) _ rfl (HZ1.out.row _) Try.underlying70 rfl (by kernel_rfl)) rfl ⟨rfl, below_setRow HB1.out (by omega) _⟩

set_option maxRecDepth 100000 in
set_option maxHeartbeats 1000000 in
theorem leadOf_yes (s : ByteArray) (hs : s.size ≤ maxLen) (n : Nat) (v : Value) (L : List (List Nat)) (w : World) (h : Txts w v L) (hl : L.length ≤ 2000000) (hg : goodM s n L = true) :
    Calls Try.prog 60 #[.agg #[.string s, .int .i64 n, v]] w (LeadYes (rdf n) (chR n L) w) := by
  obtain ⟨a, cap, rfl, hcap, _⟩ := id h
  have HT := Lib.hid h
  obtain ⟨hga, hnm⟩ := goodM_parts hg
  have h8 : n ≤ 8 := by have := goodAll_range hga; omega
  have HR0 := Lib.hid ((RowAt.new w 26 #[.string s, .int .i64 n, .slice a L.length cap]).push (.cells zero9 70))
  have HZ0 : Hid (RowAt ((w.alloc (.cells #[.string s, .int .i64 n, .slice a L.length cap] 26)).alloc (.cells zero9 70)) (w.heap.size + 1) 70 zero9) := Lib.hid (by
    have := RowAt.new (w.alloc (.cells #[.string s, .int .i64 n, .slice a L.length cap] 26)) 70 zero9
    simpa using this)
  have HB0 := Lib.hid (((Below.refl _ w).alloc (Nat.le_refl _) (.cells #[.string s, .int .i64 n, .slice a L.length cap] 26)).alloc (by simp) (.cells zero9 70))
  have c1 := HR0.out.cell 1 rfl
  have c2 := HR0.out.cell 2 rfl
  have hF : listF n L = chR n L := by unfold listF; rw [if_pos hga]
  have HLC : Hid (∀ w, Txts w (.slice a L.length cap) L → Calls Try.prog 97 #[.int .i64 n, .slice a L.length cap] w (fun e w' => ∃ v, e = .returned (.tuple #[v, .bool true]) ∧ NewD w.heap.size w' v (chR n L) ∧ Below w.heap.size w w')) := Lib.hid (fun w h => by
    have := changeListOf_any n (.slice a L.length cap) L w h hl
    unfold ListOut at this
    rwa [hga, hF] at this)
  have HRD := Lib.hid (roundsDigits_any n h8)
  clear h hcap hga hg hF hl h8
  generalize rdf n = f at *
  generalize chR n L = cs at *
  go_enter Try.func60, Try.ntmps60
  go_wp2_with fail
  refine (HLC.out _ (HT.out.kept (HB0.out))).mono ?_
  rintro e w1 ⟨v1, rfl, hn1, hb1⟩
  have HR1 := Lib.hid (HR0.out.kept hb1)
  have HZ1 := Lib.hid (HZ0.out.kept hb1)
  have HB1 := Lib.hid (HB0.out.trans (hb1.mono HB0.out.size))
  have d0 := HR1.out.cell 0 rfl
  have d1 := HR1.out.cell 1 rfl
  obtain ⟨a1, k1, rfl, -, -⟩ := hn1.view rfl
  have HN1 := Lib.hid (hn1.lower HB0.out.size)
  obtain ⟨l1, hl1⟩ : ∃ l1, cs.length = l1 := ⟨_, rfl⟩
  rw [hl1] at HN1 ⊢
  clear hn1 hb1 HR0 HZ0 HB0 c1 c2 HT HLC
  go_wp2_with (first | (go_at_call 98; refine (goodName_any s hs _).mono ?_; rintro e w2 ⟨rfl, rfl⟩; rw [hnm]) | fail)
  refine (HRD.out _).mono ?_
  rintro e w2 ⟨rfl, hb2⟩
  have HZ2 := Lib.hid (HZ1.out.kept hb2)
  have HB2 := Lib.hid (HB1.out.trans (hb2.mono HB1.out.size))
  have HN2 := Lib.hid (HN1.out.kept hb2)
  clear hb2 HZ1 HB1 HN1 HR1 d0 d1
  simp only [dig8]
  go_wp2_with (first | (refine wpList_store_row rfl 70 _ _ rfl _ _ rfl rfl 70 _ (HZ2.out) (by kernel_rfl) rfl (by kernel_rfl) ?_) | fail)
  exact bodyPost_ret (results_row_tmp rfl _ _ (w.heap.size + 1) 70 _ (0, 0) _ rfl (HZ2.out.row _) Try.underlying70 rfl (by kernel_rfl)) rfl ⟨_, rfl, HN2.out.setRowOther _ _ (HN2.out.apart8 HZ2.out (by decide)), below_setRow HB2.out (by omega) _⟩
end Go.Proofs.Ytpfnamiacagocaa
