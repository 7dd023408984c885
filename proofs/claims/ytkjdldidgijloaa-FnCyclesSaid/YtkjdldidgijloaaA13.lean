/- Turned rows in the model; the law on TurnRow. -/
import Derived.Test.YtkjdldidgijloaaA12
namespace Go.Proofs.Ytkjdldidgijloaa
open Go.RowKit

/-- a block of the call's own whose first n cells are these bytes -/
structure BytesAt (W : World) (b n : Nat) (h : Nat → Nat) : Prop where
  lt : b < W.heap.size
  cell : ∀ i, i < n → W.cell? ⟨b, i, none⟩ = some (.int .u8 (h i))
  free : ∀ i, i < n → W.frozen? ⟨b, i, none⟩ = false
theorem BytesAt.kept {W W' : World} {b n : Nat} {h : Nat → Nat} (H : BytesAt W b n h) (hb : Below W.heap.size W W') : BytesAt W' b n h :=
  ⟨Nat.lt_of_lt_of_le H.lt hb.size, fun i hi => (hb.cell (p := ⟨b, i, none⟩) H.lt).trans (H.cell i hi), fun i hi => (hb.frozen (p := ⟨b, i, none⟩) H.lt).trans (H.free i hi)⟩
theorem BytesAt.set {W : World} {b n : Nat} {h : Nat → Nat} (H : BytesAt W b n h) (k v : Nat) (hk : k < n) : BytesAt (W.setCell ⟨b, k, none⟩ (.int .u8 v)) b n (setF h k v) := by
  refine ⟨by simpa using H.lt, fun i hi => ?_, fun i hi => ?_⟩
  · by_cases e : i = k
    · subst e
      rw [World.cell?_setCell_same _ _ _ (H.cell i hi)]; simp [setF]
    · rw [World.cell?_setCell_other _ _ _ _ (by intro q; injection q; omega), H.cell i hi]; simp [setF, e]
  · rw [World.frozen?_setCell]; exact H.free i hi

theorem bytes_made (s : ByteArray) (w : World) : ∃ cap W1, (convert 9 22 (.string s)).run Try.prog w = .ok (.slice (some ⟨w.heap.size, 0, none⟩) s.size cap) W1 ∧ BytesAt W1 w.heap.size s.size (dg s) ∧ Below w.heap.size w W1 := by
  refine ⟨_, _, run_bytes_of_string w _ _ 5 s Try.underlying9 Try.underlying22 Try.underlying5, ⟨by simp, fun i hi => ?_, fun i hi => ?_⟩, (Below.refl _ w).drew.alloc (Nat.le_refl _) _⟩
  · have hi' : i < s.data.size := hi
    rw [show w.heap.size = w.drew.heap.size from rfl, World.cell?_alloc_mark, bytesRow_at s _ i hi']
    simp [dg, hi]; rfl
  · rw [show w.heap.size = w.drew.heap.size from rfl, World.frozen?_alloc_mark]
    have : ¬ (bytesRow s (grownCap w s.size 0 5)).size ≤ i := by
      have hi' : i < s.data.size := hi
      unfold bytesRow
      simp
      omega
    simp [this]

set_option maxRecDepth 100000 in
set_option maxHeartbeats 1000000 in
theorem l1Turn_any (n : Nat) (f : Nat → Nat) (s : ByteArray) (hs : IsStr n f s) (hf : IsRow n f) (w : World) :
    Calls Try.prog 63 #[.string s] w fun e w' => e = .returned (.string (strOf n (invF n f))) ∧ Below w.heap.size w w' := by
  have hss : s.size = n := hs.1
  have h8 : n ≤ 8 := hf.eight
  have h8' : (n : Int) ≤ 8 := by omega
  rw [strOf_congr (fun i hi => (fill_inv hf (dg s) i hi).symm)]
  have HS := Lib.hid hs
  have HF := Lib.hid hf
  clear hs hf
  obtain ⟨cap, W1, hconv, hbytes, hbel⟩ := bytes_made s w
  rw [hss] at hconv hbytes
  have HY := Lib.hid hbytes
  have HB := Lib.hid hbel
  clear hbytes hbel
  go_enter Try.func63, Try.ntmps63
  go_wp2
  clear hconv
  go_loopg [4] n (fun q i wr => ∃ k : Nat, k ≤ n ∧ q + k = n ∧ i = .int .i64 ((k : Int) + 1) ∧ BytesAt wr w.heap.size n (fill f (dg s) k) ∧ Below w.heap.size w wr)
  case atStart => exact ⟨0, Nat.zero_le _, rfl, rfl, HY.out, HB.out⟩
  case round =>
    clear HY HB
    obtain ⟨k, hk, hq, rfl, hY, hbel⟩ := hrel
    have HQ := Lib.hid hq
    have HY := Lib.hid hY
    have HB := Lib.hid hbel
    clear hq hY hbel
    by_cases hlt : k < n
    · have hlo := HF.out.lo k hlt
      have hhi := HF.out.hi k hlt
      obtain ⟨c, hc⟩ : ∃ c, f k = 49 + c := ⟨f k - 49, by omega⟩
      have hcn : c < n := by omega
      have hki : (k : Int) + 1 ≤ n := by omega
      have HC := Lib.hid (show f k - 49 = c by omega)
      have HC2 := Lib.hid hc
      clear hc hlo hhi
      have c3 := HY.out.cell c hcn
      have c4 := HY.out.free c hcn
      have hcn' : (c : Int) < n := by omega
      go_wp2_with fail
      refine (l1At_any n f s HS.out ((k : Int) + 1) (by omega) (by omega) h8 (by rw [show ((k : Int) + 1).toNat - 1 = k from by omega]; have := HF.out.lo k hlt; omega) _).mono ?_
      rintro e w' ⟨rfl, rfl⟩
      rw [show ((k : Int) + 1).toNat - 1 = k from by omega, show ((f k : Int) - 48) = (c : Int) + 1 from by have := HC2.out; omega]
      go_wp2
      go_roundg (n - (k + 1))
      case measure => have := HQ.out; omega
      case rel =>
        refine ⟨k + 1, by omega, by have := HQ.out; omega, by go_num, ?_, HB.out.setCell (by simp <;> omega) _⟩
        have := HY.out.set c (49 + k) hcn
        rw [← HC.out] at this
        rw [← HC.out]
        rw [show (48 + ((k : Int) + 1)) = ((49 + k : Nat) : Int) from by omega]
        exact this
    · obtain rfl : k = n := by omega
      have hconv := conv_dig wr w.heap.size k cap _ HY.out.cell
      go_wp2
      go_ret
      exact ⟨rfl, HB.out⟩

set_option maxRecDepth 100000 in
set_option maxHeartbeats 1000000 in
theorem sTurnRow_any (s : ByteArray) (hs : s.size ≤ maxLen) (b : Bool) (hb : goodB s = b) (w : World) :
    Calls Try.prog 27 #[.string s] w fun e w' => e = .returned (if b = true then .tuple #[.string (strOf s.size (invF s.size (dg s))), .bool true] else .tuple #[.string ⟨#[]⟩, .bool false]) ∧ Below w.heap.size w w' := by
  have H := Lib.hid hb
  clear hb
  cases b
  · go_enter Try.func27, Try.ntmps27
    go_wp2_with fail
    refine (l1Row_any s hs _).mono ?_
    rintro e w1 ⟨rfl, hb1⟩
    rw [H.out]
    go_wp2
    go_ret2
    exact ⟨rfl, hb1⟩
  · go_enter Try.func27, Try.ntmps27
    go_wp2_with fail
    refine (l1Row_any s hs _).mono ?_
    rintro e w1 ⟨rfl, hb1⟩
    rw [H.out]
    go_wp2_with fail
    refine (l1Turn_any s.size (dg s) s (isStr_dg s) (goodB_row H.out) _).mono ?_
    rintro e w2 ⟨rfl, hb2⟩
    go_wp2
    go_ret2
    exact ⟨rfl, hb1.trans (hb2.mono hb1.size)⟩

set_option maxRecDepth 100000 in
set_option maxHeartbeats 1000000 in
theorem iTurnRow_any (s : ByteArray) (hs : s.size ≤ maxLen) (b : Bool) (hb : goodB s = b) (w : World) :
    Calls Try.prog 25 #[.string s] w fun e w' => e = .returned (if b = true then .tuple #[.string (strOf s.size (invF s.size (dg s))), .bool true] else .tuple #[.string ⟨#[]⟩, .bool false]) ∧ Below w.heap.size w w' := by
  have H := Lib.hid hb
  clear hb
  cases b
  · go_enter Try.func25, Try.ntmps25
    go_wp2_with fail
    refine (digitsOf_no s hs H.out _).mono ?_
    rintro e w1 ⟨rfl, hb1⟩
    go_wp2_with (refine wpList_store_row rfl 60 _ _ rfl _ _ rfl rfl 60 _ (heap_alloc_new _ _) (by kernel_rfl) rfl (by kernel_rfl) ?_; rw [World.setRow_alloc_new])
    go_ret2
    exact ⟨rfl, hb1.alloc hb1.size _⟩
  · go_enter Try.func25, Try.ntmps25
    go_wp2_with fail
    refine (digitsOf_yes s hs (goodB_row H.out) _).mono ?_
    rintro e w1 ⟨rfl, hb1⟩
    go_wp2_with (first | (refine wpList_store_row rfl 60 _ _ rfl _ _ rfl rfl 60 _ (heap_alloc_new _ _) (by kernel_rfl) rfl (by kernel_rfl) ?_; rw [World.setRow_alloc_new]) | (refine wpList_load_row rfl 60 _ rfl _ rfl 60 _ _ _ (heap_alloc_new _ _) Try.underlying60 rfl (by kernel_rfl) ?_))
    refine (inverse_any s.size (dg s) (goodB_row H.out) _).mono ?_
    rintro e w2 ⟨rfl, hb2⟩
    have hbel := Lib.hid ((hb1.alloc hb1.size (.cells (dig8 (dg s)) 60)).trans (hb2.mono (by have := hb1.size; simp; omega)))
    clear hb1 hb2
    go_wp2_with fail
    refine (row_any s.size _ (isDig_of (isRow_inv (goodB_row H.out))) _).mono ?_
    rintro e w3 ⟨rfl, hb3⟩
    go_wp2
    go_ret2
    exact ⟨rfl, hbel.out.trans (hb3.mono hbel.out.size)⟩

set_option maxRecDepth 100000 in
set_option maxHeartbeats 1000000 in
theorem lawTurnRow (s : ByteArray) (w : World) (hs : s.size ≤ maxLen) :
    Calls Try.prog 9 #[.string s] w fun e w' => e = .returned (.bool true) ∧ Below w.heap.size w w' := by
  by_cases hbig : 1048576 < s.size
  · have hbig' : (1048576 : Int) < s.size := by omega
    go_enter Try.func9, Try.ntmps9
    go_wp2
    go_ret
    exact ⟨rfl, Below.refl _ _⟩
  · have hbig' : (s.size : Int) ≤ 1048576 := by omega
    obtain ⟨b, hb⟩ : ∃ b, goodB s = b := ⟨_, rfl⟩
    have H := Lib.hid hb
    clear hb
    cases b
    all_goals
      go_enter Try.func9, Try.ntmps9
      go_wp2_with fail
      refine (sTurnRow_any s hs _ H.out _).mono ?_
      rintro e w1 ⟨rfl, hb1⟩
      simp only [if_true, if_false, Bool.false_eq_true]
      go_wp2_with fail
      refine (iTurnRow_any s hs _ H.out _).mono ?_
      rintro e w2 ⟨rfl, hb2⟩
      simp only [if_true, if_false, Bool.false_eq_true]
      go_wp2
      go_ret
      exact ⟨rfl, hb1.trans (hb2.mono hb1.size)⟩
end Go.Proofs.Ytkjdldidgijloaa
