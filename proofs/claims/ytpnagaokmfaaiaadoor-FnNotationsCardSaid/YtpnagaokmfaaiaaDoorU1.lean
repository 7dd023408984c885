/- The reader of place notation: whether it is done, what it sees. -/
import Derived.Test.YtpnagaokmfaaiaaDoorR2
import Derived.Test.YtpnagaokmfaaiaaDoorK5
namespace Go.Proofs.YtpnagaokmfaaiaaDoor
open Go.RowKit
set_option linter.unusedSimpArgs false

/-- the reader stands at p -/
def Rd (W : World) (b : Nat) (n : Int) (s : ByteArray) (p : Nat) : Prop := RowAt W b 85 #[.int .i64 n, .string s, .int .i64 p]
theorem Rd.only {W W' : World} {b : Nat} {n : Int} {s : ByteArray} {p : Nat} (h : Rd W b n s p) (hb : Below W.heap.size W W') : Rd W' b n s p := RowAt.kept h hb
theorem ge_index (l : List Nat) (c : Nat) (hl : ∀ x ∈ l, x < 256) (hc : c < 256) : decide (0 ≤ Lib.indexByte (l.map UInt8.ofNat) (UInt8.ofNat c)) = l.contains c := by
  induction l with
  | nil => rfl
  | cons x t ih =>
    have ih := ih (fun y hy => hl y (List.mem_cons_of_mem _ hy))
    have hx := hl x List.mem_cons_self
    unfold Lib.indexByte
    have hxc : (UInt8.ofNat x == UInt8.ofNat c) = (x == c) := by
      rw [Bool.eq_iff_iff, beq_iff_eq, beq_iff_eq]
      constructor
      · intro h
        have := congrArg UInt8.toNat h
        simpa [UInt8.toNat_ofNat', Nat.mod_eq_of_lt hx, Nat.mod_eq_of_lt hc] using this
      · rintro rfl; rfl
    simp only [List.map_cons, hxc, List.contains_cons]
    have hge := Lib.indexByte_ge (t.map UInt8.ofNat) (UInt8.ofNat c)
    by_cases h1 : x = c
    · subst h1
      simp
    · have h2 : (x == c) = false := by rw [beq_eq_false_iff_ne]; exact h1
      have h3 : (c == x) = false := by rw [beq_eq_false_iff_ne]; exact fun e => h1 e.symm
      rw [h2, h3, Bool.false_or]
      simp only [Bool.false_eq_true, if_false]
      rw [← ih]
      by_cases h4 : Lib.indexByte (t.map UInt8.ofNat) (UInt8.ofNat c) = -1
      · simp [h4]
      · have : ¬ (Lib.indexByte (t.map UInt8.ofNat) (UInt8.ofNat c) == -1) = true := by rw [beq_iff_eq]; exact h4
        rw [if_neg this]
        rw [decide_eq_true (show (0 : Int) ≤ Lib.indexByte (t.map UInt8.ofNat) (UInt8.ofNat c) + 1 by omega), decide_eq_true (show (0 : Int) ≤ Lib.indexByte (t.map UInt8.ofNat) (UInt8.ofNat c) by omega)]

set_option maxRecDepth 100000 in
set_option maxHeartbeats 1000000 in
theorem done_any (b : Nat) (n : Int) (s : ByteArray) (p : Nat) (w : World) (h : Rd w b n s p) :
    Calls Tryd.prog 85 #[.pointer (some ⟨b, 0, none⟩)] w fun e w' => e = .returned (.bool (decide (p = s.size))) ∧ ∃ m, w' = w.drewN m := by
  have c1 := h.cell 1 rfl
  have c2 := h.cell 2 rfl
  have heq : ((p : Int) == (s.size : Int)) = decide (p = s.size) := by
    rw [Bool.eq_iff_iff, beq_iff_eq, decide_eq_true_eq]; omega
  clear h
  go_enter Tryd.func85, Tryd.ntmps85
  go_wp2
  go_quiet (fail)
  go_wp2
  go_ret
  exact ⟨rfl, _, rfl⟩

/-- what the reader sees -/
def seesB (s : ByteArray) (p : Nat) (ls : List Nat) : Bool := decide (p < s.size) && ls.contains (dg s p)
set_option maxRecDepth 100000 in
set_option maxHeartbeats 1000000 in
theorem sees_any (ls : List Nat) (hls : ∀ x ∈ ls, x < 256) (b : Nat) (n : Int) (s : ByteArray) (p : Nat) (w : World) (hp : p ≤ s.size) (h : Rd w b n s p) :
    Calls Tryd.prog 78 #[.pointer (some ⟨b, 0, none⟩), .string (txt ls)] w fun e w' => e = .returned (.bool (seesB s p ls)) ∧ ∃ m, w' = w.drewN m := by
  have HD := Lib.hid (fun k => done_any b n s p (w.drewN k) (RowAt.drewN h k))
  by_cases hlt : p < s.size
  · have hd : decide (p = s.size) = false := by simp; omega
    rw [hd] at HD
    have hpi : (p : Int) < s.size := by omega
    have hge := ge_index ls (dg s p) hls (dg_lt s p)
    have hdg : s[p].toNat = dg s p := by simp [dg, hlt]
    have hix : ∀ W, Calls Tryd.prog 86 #[.string (txt ls), .int .u8 (dg s p)] W fun e w' => e = .returned (.int .i64 (Lib.indexByte (ls.map UInt8.ofNat) (UInt8.ofNat (dg s p)))) ∧ w' = W := fun W => by
      refine (indexByte_any (txt ls) (dg s p) W).mono ?_
      rintro e w' ⟨rfl, rfl⟩
      refine ⟨?_, rfl⟩
      congr 3
    have hsee : seesB s p ls = ls.contains (dg s p) := by unfold seesB; rw [decide_eq_true hlt, Bool.true_and]
    rw [hsee]
    generalize Lib.indexByte (ls.map UInt8.ofNat) (UInt8.ofNat (dg s p)) = x at *
    generalize ls.contains (dg s p) = res at *
    have HIX := Lib.hid hix
    clear hd hsee hix
    have c1 := h.cell 1 rfl
    have c2 := h.cell 2 rfl
    clear h
    generalize txt ls = lt at *
    go_enter Tryd.func78, Tryd.ntmps78
    go_wp2
    go_quiet ((first | (go_at_call 85; exact Calls.quiet_of (HD.out _)) | (go_at_call 86; exact Calls.quiet_of_same (HIX.out _))))
    go_wp2
    go_ret
    exact ⟨rfl, _, rfl⟩
  · have hpe : p = s.size := by omega
    have hd : decide (p = s.size) = true := by simp [hpe]
    have hsee : seesB s p ls = false := by unfold seesB; rw [decide_eq_false hlt]; rfl
    rw [hd] at HD
    rw [hsee]
    generalize txt ls = lt at *
    clear hd hsee hpe hlt h
    go_enter Tryd.func78, Tryd.ntmps78
    go_wp2
    go_quiet ((go_at_call 85; exact Calls.quiet_of (HD.out _)))
    go_wp2
    go_ret
    exact ⟨rfl, _, rfl⟩
end Go.Proofs.YtpnagaokmfaaiaaDoor
