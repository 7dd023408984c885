/- The reader of place notation: whether it is done, what it sees. The reader of place notation: a change. The reader of place notation: a change is read. The reader of place notation: a block. The reader of place notation: all blocks. All blocks of a text; the deferred closure that recovers. The list that blocks denote, in the program. -/
import Derived.Test.YtdflpkkcjbdpfaaDoorR2
import Derived.Test.YtdflpkkcjbdpfaaDoorK5
import Derived.Test.YtdflpkkcjbdpfaaDoorC3
import Derived.Defers
import Derived.Recover
import Derived.Laws.Pointers
import Derived.Test.YtdflpkkcjbdpfaaDoorC4
namespace Go.Proofs.YtdflpkkcjbdpfaaDoor
open Go.RowKit
set_option linter.unusedSimpArgs false

/-- the reader stands at p -/
def Rd (W : World) (b : Nat) (n : Int) (s : ByteArray) (p : Nat) : Prop := RowAt W b 92 #[.int .i64 n, .string s, .int .i64 p]
theorem Rd.only {W W' : World} {b : Nat} {n : Int} {s : ByteArray} {p : Nat} (h : Rd W b n s p) (hb : Below W.heap.size W W') : Rd W' b n s p := RowAt.kept h hb
theorem ge_index (l : List Nat) (c : Nat) (hl : ∀ x ∈ l, x < 256) (hc : c < 256) : decide (0 ≤ Lib.indexByte (l.map UInt8.ofNat) (UInt8.ofNat c)) = l.contains c := by
  induction l with
  | nil => rfl
  | cons x t ih =>
    have ih := ih (fun y hy => hl y (List.mem_cons_of_mem _ hy))
    have hx := hl x List.mem_cons_self
    unfold Lib.indexByte
    have hxc : (UInt8.ofNat x == UInt8.ofNat c) = (x == c) := by
      rw [Bool.eq_iff_iff, beq_iff_eq, beq_iff_eq]
      constructor
      · intro h
        have := congrArg UInt8.toNat h
        simpa [UInt8.toNat_ofNat', Nat.mod_eq_of_lt hx, Nat.mod_eq_of_lt hc] using this
      · rintro rfl; rfl
    simp only [List.map_cons, hxc, List.contains_cons]
    have hge := Lib.indexByte_ge (t.map UInt8.ofNat) (UInt8.ofNat c)
    by_cases h1 : x = c
    · subst h1
      simp
    · have h2 : (x == c) = false := by rw [beq_eq_false_iff_ne]; exact h1
      have h3 : (c == x) = false := by rw [beq_eq_false_iff_ne]; exact fun e => h1 e.symm
      rw [h2, h3, Bool.false_or]
      simp only [Bool.false_eq_true, if_false]
      rw [← ih]
      by_cases h4 : Lib.indexByte (t.map UInt8.ofNat) (UInt8.ofNat c) = -1
      · simp [h4]
      · have : ¬ (Lib.indexByte (t.map UInt8.ofNat) (UInt8.ofNat c) == -1) = true := by rw [beq_iff_eq]; exact h4
        rw [if_neg this]
        rw [decide_eq_true (show (0 : Int) ≤ Lib.indexByte (t.map UInt8.ofNat) (UInt8.ofNat c) + 1 by omega), decide_eq_true (show (0 : Int) ≤ Lib.indexByte (t.map UInt8.ofNat) (UInt8.ofNat c) by omega)]

set_option maxRecDepth 100000 in
set_option maxHeartbeats 1000000 in
theorem done_any (b : Nat) (n : Int) (s : ByteArray) (p : Nat) (w : World) (h : Rd w b n s p) :
    Calls Tryd.prog 84 #[.pointer (some ⟨b, 0, none⟩)] w fun e w' => e = .returned (.bool (decide (p = s.size))) ∧ ∃ m, w' = w.drewN m := by
  have c1 := h.cell 1 rfl
  have c2 := h.cell 2 rfl
  have heq : ((p : Int) == (s.size : Int)) = decide (p = s.size) := by
    rw [Bool.eq_iff_iff, beq_iff_eq, decide_eq_true_eq]; omega
  clear h
  go_enter Tryd.func84, Tryd.ntmps84
  go_wp2
  go_quiet (fail)
  go_wp2
  go_ret
  exact ⟨rfl, _, rfl⟩

/-- what the reader sees -/
def seesB (s : ByteArray) (p : Nat) (ls : List Nat) : Bool := decide (p < s.size) && ls.contains (dg s p)
set_option maxRecDepth 100000 in
set_option maxHeartbeats 1000000 in
theorem sees_any (ls : List Nat) (hls : ∀ x ∈ ls, x < 256) (b : Nat) (n : Int) (s : ByteArray) (p : Nat) (w : World) (hp : p ≤ s.size) (h : Rd w b n s p) :
    Calls Tryd.prog 74 #[.pointer (some ⟨b, 0, none⟩), .string (txt ls)] w fun e w' => e = .returned (.bool (seesB s p ls)) ∧ ∃ m, w' = w.drewN m := by
  have HD := Lib.hid (fun k => done_any b n s p (w.drewN k) (RowAt.drewN h k))
  by_cases hlt : p < s.size
  · have hd : decide (p = s.size) = false := by simp; omega
    rw [hd] at HD
    have hpi : (p : Int) < s.size := by omega
    have hge := ge_index ls (dg s p) hls (dg_lt s p)
    have hdg : s[p].toNat = dg s p := by simp [dg, hlt]
    have hix : ∀ W, Calls Tryd.prog 85 #[.string (txt ls), .int .u8 (dg s p)] W fun e w' => e = .returned (.int .i64 (Lib.indexByte (ls.map UInt8.ofNat) (UInt8.ofNat (dg s p)))) ∧ w' = W := fun W => by
      refine (indexByte_any (txt ls) (dg s p) W).mono ?_
      rintro e w' ⟨rfl, rfl⟩
      refine ⟨?_, rfl⟩
      congr 3
    have hsee : seesB s p ls = ls.contains (dg s p) := by unfold seesB; rw [decide_eq_true hlt, Bool.true_and]
    rw [hsee]
    generalize Lib.indexByte (ls.map UInt8.ofNat) (UInt8.ofNat (dg s p)) = x at *
    generalize ls.contains (dg s p) = res at *
    have HIX := Lib.hid hix
    clear hd hsee hix
    have c1 := h.cell 1 rfl
    have c2 := h.cell 2 rfl
    clear h
    generalize txt ls = lt at *
    go_enter Tryd.func74, Tryd.ntmps74
    go_wp2
    go_quiet ((first | (go_at_call 84; exact Calls.quiet_of (HD.out _)) | (go_at_call 85; exact Calls.quiet_of_same (HIX.out _))))
    go_wp2
    go_ret
    exact ⟨rfl, _, rfl⟩
  · have hpe : p = s.size := by omega
    have hd : decide (p = s.size) = true := by simp [hpe]
    have hsee : seesB s p ls = false := by unfold seesB; rw [decide_eq_false hlt]; rfl
    rw [hd] at HD
    rw [hsee]
    generalize txt ls = lt at *
    clear hd hsee hpe hlt h
    go_enter Tryd.func74, Tryd.ntmps74
    go_wp2
    go_quiet ((go_at_call 84; exact Calls.quiet_of (HD.out _)))
    go_wp2
    go_ret
    exact ⟨rfl, _, rfl⟩
end Go.Proofs.YtdflpkkcjbdpfaaDoor
namespace Go.Proofs.YtdflpkkcjbdpfaaDoor
open Go.RowKit
set_option linter.unusedSimpArgs false

def lx : List Nat := [45, 120]
def ld : List Nat := [48, 49, 50, 51, 52, 53, 54, 55, 56, 57]
theorem lx_has (c : Nat) : lx.contains c = isX c := by
  unfold lx isX
  by_cases h1 : c = 45
  · simp [h1]
  · by_cases h2 : c = 120
    · simp [h2]
    · simp [h1, h2]
theorem ld_has (c : Nat) : ld.contains c = isD c := by
  unfold ld isD
  rw [Bool.eq_iff_iff]
  simp only [List.contains_cons, List.contains_nil, Bool.or_false, Bool.or_eq_true, beq_iff_eq, Bool.and_eq_true, decide_eq_true_eq]
  omega
theorem drop_lets (s : ByteArray) (p : Nat) (hp : p < s.size) : (lets s).drop p = dg s p :: (lets s).drop (p + 1) := lets_drop s p hp
theorem drop_end (s : ByteArray) (p : Nat) (hp : s.size ≤ p) : (lets s).drop p = [] := List.drop_eq_nil_of_le (by rw [lets_len]; exact hp)
theorem seesX_yes {s : ByteArray} {p : Nat} (h : seesB s p lx = true) : p < s.size ∧ spanW ((lets s).drop p) = 1 := by
  unfold seesB at h
  rw [lx_has, Bool.and_eq_true, decide_eq_true_eq] at h
  refine ⟨h.1, ?_⟩
  rw [drop_lets s p h.1]
  show (if isX (dg s p) = true then 1 else spanD _) = 1
  rw [h.2]
  rfl
theorem seesX_no {s : ByteArray} {p : Nat} (h : seesB s p lx = false) : spanW ((lets s).drop p) = spanD ((lets s).drop p) := by
  unfold seesB at h
  rw [lx_has] at h
  by_cases hp : p < s.size
  · rw [decide_eq_true hp, Bool.true_and] at h
    rw [drop_lets s p hp]
    show (if isX (dg s p) = true then 1 else spanD (dg s p :: _)) = _
    rw [h]
    rfl
  · rw [drop_end s p (by omega)]
    rfl
theorem seesD_yes {s : ByteArray} {p : Nat} (h : seesB s p ld = true) : p < s.size ∧ spanD ((lets s).drop p) = spanD ((lets s).drop (p + 1)) + 1 := by
  unfold seesB at h
  rw [ld_has, Bool.and_eq_true, decide_eq_true_eq] at h
  refine ⟨h.1, ?_⟩
  rw [drop_lets s p h.1, spanD, h.2]
  rfl
theorem seesD_no {s : ByteArray} {p : Nat} (h : seesB s p ld = false) : spanD ((lets s).drop p) = 0 := by
  unfold seesB at h
  rw [ld_has] at h
  by_cases hp : p < s.size
  · rw [decide_eq_true hp, Bool.true_and] at h
    rw [drop_lets s p hp, spanD, h]
    rfl
  · rw [drop_end s p (by omega)]
    rfl
theorem lets_part (s : ByteArray) (p q : Nat) : lets (s.extract p q) = ((lets s).drop p).take (q - p) := by
  rw [← data_lets, ← data_lets]
  simp only [ByteArray.data_extract, Array.toList_extract]
  simp [List.extract_eq_take_drop, List.map_drop, List.map_take]

/-- the change that begins at p is read, or a panic tells p -/
def ChRes (b : Nat) (n : Nat) (s : ByteArray) (p : Nat) (w : World) (e : Ending) (w' : World) : Prop :=
  Only b w w' ∧ if wordP n (lets s) p = [] then e = .panicked [{ v := .iface 89 (.int .i64 p), recovered := false }]
  else e = .returned (.string (txt (wordP n (lets s) p))) ∧ Rd w' b n s (p + spanW ((lets s).drop p))
theorem ChRes.no {b n : Nat} {s : ByteArray} {p : Nat} {w w' : World} {e : Ending} (h : wordP n (lets s) p = []) (ho : Only b w w') (he : e = .panicked [{ v := .iface 89 (.int .i64 p), recovered := false }]) : ChRes b n s p w e w' := ⟨ho, by rw [if_pos h]; exact he⟩
theorem ChRes.yes {b n : Nat} {s : ByteArray} {p q : Nat} {r : List Nat} {w w' : World} {e : Ending} (h : wordP n (lets s) p = r) (h0 : r ≠ []) (hq : p + spanW ((lets s).drop p) = q) (ho : Only b w w') (he : e = .returned (.string (txt r))) (hr : Rd w' b n s q) : ChRes b n s p w e w' :=
  ⟨ho, by rw [if_neg (by rw [h]; exact h0), h, hq]; exact ⟨he, hr⟩⟩
end Go.Proofs.YtdflpkkcjbdpfaaDoor
namespace Go.Proofs.YtdflpkkcjbdpfaaDoor
open Go.RowKit
set_option linter.unusedSimpArgs false

theorem Rd.set {W : World} {b : Nat} {n : Int} {s : ByteArray} {p : Nat} (h : Rd W b n s p) (q : Nat) : Rd (W.setCell ⟨b, 2, none⟩ (.int .i64 q)) b n s q := RowAt.set h 2 _
theorem Only.setInt {b : Nat} {w W : World} (h : Only b w W) (v : Value) : Only b w (W.setCell ⟨b, 2, none⟩ v) := h.trans (Only.set W 2 v)

theorem Rd.next {W : World} {b : Nat} {n : Int} {s : ByteArray} {p : Nat} (h : Rd W b n s p) : Rd (W.setCell ⟨b, 2, none⟩ (.int .i64 ((p : Int) + 1))) b n s (p + 1) := by
  rw [show ((p : Int) + 1) = ((p + 1 : Nat) : Int) by omega]
  exact h.set (p + 1)
theorem wordP_part {n : Nat} {s : ByteArray} {p q : Nat} (hq : p + spanW ((lets s).drop p) = q) (hne : q ≠ p) : wordP n (lets s) p = tidyL n (lets (s.extract p q)) := by
  unfold wordP
  rw [if_neg (by omega), lets_part, show q - p = spanW ((lets s).drop p) by omega]
theorem wordP_nil {n : Nat} {s : ByteArray} {p : Nat} (hq : p + spanW ((lets s).drop p) = p) : wordP n (lets s) p = [] := by
  unfold wordP
  rw [if_pos (by omega)]
set_option maxRecDepth 100000 in
set_option maxHeartbeats 1000000 in
theorem change_in (n : Nat) (h3 : 3 ≤ n) (h8 : n ≤ 8) (b : Nat) (s : ByteArray) (p : Nat) (w : World) (hs : s.size ≤ 1000) (hp : p ≤ s.size) (h : Rd w b n s p) :
    Calls Tryd.prog 83 #[.pointer (some ⟨b, 0, none⟩)] w (ChRes b n s p w) := by
  have hSX : ∀ W q, q ≤ s.size → Rd W b n s q → Calls Tryd.prog 74 #[.pointer (some ⟨b, 0, none⟩), .string (txt lx)] W _ := fun W q hq hr => sees_any lx (by simp [lx]) b n s q W hq hr
  have hSD : ∀ W q, q ≤ s.size → Rd W b n s q → Calls Tryd.prog 74 #[.pointer (some ⟨b, 0, none⟩), .string (txt ld)] W _ := fun W q hq hr => sees_any ld (by simp [ld]) b n s q W hq hr
  have HSX := Lib.hid hSX
  have HSD := Lib.hid hSD
  have HR := Lib.hid h
  have c2 := h.cell 2 rfl
  have f2 := h.free 2
  have hsi : (s.size : Int) ≤ 1000 := by omega
  have hpi : (p : Int) ≤ s.size := by omega
  clear hSX hSD h
  obtain ⟨bx, hbx⟩ : ∃ bx, seesB s p lx = bx := ⟨_, rfl⟩
  have HBX := Lib.hid hbx
  clear hbx
  cases bx
  · go_enter Tryd.func83, Tryd.ntmps83
    go_wp2_with fail
    refine (HSX.out _ p hp HR.out).mono ?_
    rintro e w1 ⟨rfl, k1, hk1⟩
    have HR1 : Hid (Rd w1 b n s p ∧ Only b w w1) := Lib.hid ⟨by rw [hk1]; exact RowAt.drewN HR.out _, by rw [hk1]; exact (Only.refl _ _).drewN _⟩
    rw [HBX.out]
    have hx := seesX_no HBX.out
    clear hk1 c2 f2 HR
    go_wp2_with fail
    go_loopg [] (spanD ((lets s).drop p)) (fun q0 wr => ∃ q : Nat, q0 = spanD ((lets s).drop q) ∧ p ≤ q ∧ q ≤ s.size ∧ q + spanD ((lets s).drop q) = p + spanD ((lets s).drop p) ∧ Rd wr b n s q ∧ Only b w wr)
    case atStart => exact ⟨p, rfl, Nat.le_refl _, hp, rfl, HR1.out.1, HR1.out.2⟩
    case round =>
      obtain ⟨q, hqm, hpq9, hqs9, hspan, hrd, hon⟩ := hrel
      have HRX := Lib.hid (And.intro hrd hon)
      have HSP := Lib.hid hspan
      have HM := Lib.hid hqm
      have c2 := hrd.cell 2 rfl
      have f2 := hrd.free 2
      have hqi : (q : Int) ≤ s.size := by omega
      clear hspan hrd hon hqm HR1
      obtain ⟨bd, hbd⟩ : ∃ bd, seesB s q ld = bd := ⟨_, rfl⟩
      have HBD := Lib.hid hbd
      clear hbd
      go_wp2_with fail
      refine (HSD.out _ q hqs9 HRX.out.1).mono ?_
      rintro e w4 ⟨rfl, k4, hk4⟩
      have HR4 : Hid (Rd w4 b n s q ∧ Only b w w4) := Lib.hid ⟨by rw [hk4]; exact RowAt.drewN HRX.out.1 _, by rw [hk4]; exact HRX.out.2.drewN _⟩
      rw [HBD.out]
      clear hk4 c2 f2 HRX
      have c2 := HR4.out.1.cell 2 rfl
      have f2 := HR4.out.1.free 2
      cases bd
      · have HQ : Hid (p + spanW ((lets s).drop p) = q) := Lib.hid (by
          have h1 := seesD_no HBD.out
          have h2 := HSP.out
          rw [hx]
          omega)
        have HPQ : Hid (p ≤ q ∧ q ≤ s.size) := Lib.hid ⟨hpq9, hqs9⟩
        have HRX := HR4
        clear hx HSP HM HSX HSD c2 f2 hpq9 hqs9
        go_wp2_with fail
        generalize w4 = w2 at *
        have HTD : Hid (∀ W, Rd W b n s q ∧ Only b w W → Calls Tryd.prog 14 #[.int .i64 n, .string (s.extract p q)] W fun e w' => e = .returned (.tuple #[.string (txt (tidyL n (lets (s.extract p q)))), .bool (decide (tidyL n (lets (s.extract p q)) ≠ []))]) ∧ Rd w' b n s q ∧ Only b w w') :=
          Lib.hid (fun W hW => (iTidy_in n h3 h8 (s.extract p q) (by rw [ByteArray.size_extract]; omega) W).mono fun e w' ⟨h1, h2⟩ => ⟨h1, hW.1.only h2, hW.2.trans (Only.of_below h2)⟩)
        have HWN : Hid (q ≠ p → wordP n (lets s) p = tidyL n (lets (s.extract p q))) := Lib.hid (wordP_part HQ.out)
        have HW0 : Hid (q = p → wordP n (lets s) p = []) := Lib.hid (fun e => wordP_nil (by rw [HQ.out, e]))
        generalize tidyL n (lets (s.extract p q)) = r at *
        obtain ⟨ok, hok⟩ : ∃ ok, decide (r ≠ []) = ok := ⟨_, rfl⟩
        rw [hok] at HTD
        have HOK := Lib.hid hok
        clear hok
        have hpq : (p : Int) ≤ q := by have := HPQ.out; omega
        have hqs : (q : Int) ≤ s.size := by have := HPQ.out; omega
        have h0p : (0 : Int) ≤ p := by omega
        have HRX2 : Hid (Rd w2.drew b n s q ∧ Only b w w2.drew) := Lib.hid ⟨HRX.out.1, HRX.out.2.trans ⟨rfl, rfl, rfl, Nat.le_refl _, fun _ _ _ => rfl⟩⟩
        have c0 := HRX2.out.1.cell 0 rfl
        have c1 := HRX2.out.1.cell 1 rfl
        have c2 := HRX2.out.1.cell 2 rfl
        go_wp2
        go_region_held3 (fun w' => w'.cell? ⟨b, 0, none⟩ = some (.int .i64 n) ∧ w'.cell? ⟨b, 1, none⟩ = some (.string s) ∧ w'.cell? ⟨b, 2, none⟩ = some (.int .i64 q) ∧ Rd w' b n s q ∧ Only b w w') (first | exact ⟨c0, c1, c2, HRX2.out.1, HRX2.out.2⟩ | exact ⟨hq5.cell 0 rfl, hq5.cell 1 rfl, hq5.cell 2 rfl, hq5, hq6⟩ | assumption) (first | (go_at_call 14; refine (HTD.out _ HRX2.out).mono ?_; rintro e5 w5 ⟨rfl, hq5, hq6⟩) | fail)
        have HRY := Lib.hid hq5
        have HOY := Lib.hid hq6
        have d2 := hq5.cell 2 rfl
        clear hq5 hq6 c0 c1 c2
        by_cases hqp : q = p
        · have HN := Lib.hid (HW0.out hqp)
          have heq : ((q : Int) == (p : Int)) = true := by rw [beq_iff_eq]; omega
          clear hqp
          go_wp2
          exact ⟨rfl, ChRes.no HN.out HOY.out rfl⟩
        · have HWP := Lib.hid (HWN.out hqp)
          have heq : ((q : Int) == (p : Int)) = false := by rw [beq_eq_false_iff_ne]; omega
          clear hqp
          cases ok
          · have HN := Lib.hid (HWP.out.trans (show r = [] by have := HOK.out; simpa using this))
            go_wp2
            exact ⟨rfl, ChRes.no HN.out HOY.out rfl⟩
          · have HRN := Lib.hid (show r ≠ [] by have := HOK.out; simpa using this)
            go_wp2
            go_ret
            exact ChRes.yes HWP.out HRN.out HQ.out HOY.out rfl HRY.out
      · have hd := seesD_yes HBD.out
        have HNX : Hid (Rd (w4.setCell ⟨b, 2, none⟩ (.int .i64 ((q : Int) + 1))) b n s (q + 1) ∧ Only b w (w4.setCell ⟨b, 2, none⟩ (.int .i64 ((q : Int) + 1)))) := Lib.hid ⟨HR4.out.1.next, HR4.out.2.setInt _⟩
        have HD := Lib.hid hd
        clear hd
        go_wp2
        go_roundg (spanD ((lets s).drop (q + 1)))
        case measure => have h1 := HD.out; have h2 := HM.out; omega
        case rel => exact ⟨q + 1, rfl, by omega, by have := HD.out; omega, by have h1 := HD.out; have h2 := HSP.out; omega, HNX.out.1, HNX.out.2⟩
  · go_enter Tryd.func83, Tryd.ntmps83
    go_wp2_with fail
    refine (HSX.out _ p hp HR.out).mono ?_
    rintro e w1 ⟨rfl, k1, hk1⟩
    have HR1 : Hid (Rd w1 b n s p ∧ Only b w w1) := Lib.hid ⟨by rw [hk1]; exact RowAt.drewN HR.out _, by rw [hk1]; exact (Only.refl _ _).drewN _⟩
    have c2 := HR1.out.1.cell 2 rfl
    have f2 := HR1.out.1.free 2
    rw [HBX.out]
    have HRX : Hid (Rd (w1.setCell ⟨b, 2, none⟩ (.int .i64 ((p : Int) + 1))) b n s (p + 1) ∧ Only b w (w1.setCell ⟨b, 2, none⟩ (.int .i64 ((p : Int) + 1)))) := Lib.hid ⟨HR1.out.1.next, HR1.out.2.setInt _⟩
    have hx := seesX_yes HBX.out
    obtain ⟨q, hq⟩ : ∃ q, p + 1 = q := ⟨_, rfl⟩
    have HQ : Hid (p + spanW ((lets s).drop p) = q) := Lib.hid (by rw [hx.2]; exact hq)
    have HPQ : Hid (p ≤ q ∧ q ≤ s.size) := Lib.hid (by omega)
    rw [hq] at HRX
    clear hk1 hx hq HR HSX HSD
    go_wp2_with fail
    generalize w1.setCell ⟨b, 2, none⟩ (.int .i64 ((p : Int) + 1)) = w2 at *
    clear c2 f2 HR1
    have HTD : Hid (∀ W, Rd W b n s q ∧ Only b w W → Calls Tryd.prog 14 #[.int .i64 n, .string (s.extract p q)] W fun e w' => e = .returned (.tuple #[.string (txt (tidyL n (lets (s.extract p q)))), .bool (decide (tidyL n (lets (s.extract p q)) ≠ []))]) ∧ Rd w' b n s q ∧ Only b w w') :=
      Lib.hid (fun W hW => (iTidy_in n h3 h8 (s.extract p q) (by rw [ByteArray.size_extract]; omega) W).mono fun e w' ⟨h1, h2⟩ => ⟨h1, hW.1.only h2, hW.2.trans (Only.of_below h2)⟩)
    have HWN : Hid (q ≠ p → wordP n (lets s) p = tidyL n (lets (s.extract p q))) := Lib.hid (wordP_part HQ.out)
    have HW0 : Hid (q = p → wordP n (lets s) p = []) := Lib.hid (fun e => wordP_nil (by rw [HQ.out, e]))
    generalize tidyL n (lets (s.extract p q)) = r at *
    obtain ⟨ok, hok⟩ : ∃ ok, decide (r ≠ []) = ok := ⟨_, rfl⟩
    rw [hok] at HTD
    have HOK := Lib.hid hok
    clear hok
    have hpq : (p : Int) ≤ q := by have := HPQ.out; omega
    have hqs : (q : Int) ≤ s.size := by have := HPQ.out; omega
    have h0p : (0 : Int) ≤ p := by omega
    have HRX2 : Hid (Rd w2.drew b n s q ∧ Only b w w2.drew) := Lib.hid ⟨HRX.out.1, HRX.out.2.trans ⟨rfl, rfl, rfl, Nat.le_refl _, fun _ _ _ => rfl⟩⟩
    have c0 := HRX2.out.1.cell 0 rfl
    have c1 := HRX2.out.1.cell 1 rfl
    have c2 := HRX2.out.1.cell 2 rfl
    go_wp2
    go_region_held3 (fun w' => w'.cell? ⟨b, 0, none⟩ = some (.int .i64 n) ∧ w'.cell? ⟨b, 1, none⟩ = some (.string s) ∧ w'.cell? ⟨b, 2, none⟩ = some (.int .i64 q) ∧ Rd w' b n s q ∧ Only b w w') (first | exact ⟨c0, c1, c2, HRX2.out.1, HRX2.out.2⟩ | exact ⟨hq5.cell 0 rfl, hq5.cell 1 rfl, hq5.cell 2 rfl, hq5, hq6⟩ | assumption) (first | (go_at_call 14; refine (HTD.out _ HRX2.out).mono ?_; rintro e5 w5 ⟨rfl, hq5, hq6⟩) | fail)
    have HRY := Lib.hid hq5
    have HOY := Lib.hid hq6
    have d2 := hq5.cell 2 rfl
    clear hq5 hq6 c0 c1 c2
    by_cases hqp : q = p
    · have HN := Lib.hid (HW0.out hqp)
      have heq : ((q : Int) == (p : Int)) = true := by rw [beq_iff_eq]; omega
      clear hqp
      go_wp2
      exact ⟨rfl, ChRes.no HN.out HOY.out rfl⟩
    · have HWP := Lib.hid (HWN.out hqp)
      have heq : ((q : Int) == (p : Int)) = false := by rw [beq_eq_false_iff_ne]; omega
      clear hqp
      cases ok
      · have HN := Lib.hid (HWP.out.trans (show r = [] by have := HOK.out; simpa using this))
        go_wp2
        exact ⟨rfl, ChRes.no HN.out HOY.out rfl⟩
      · have HRN := Lib.hid (show r ≠ [] by have := HOK.out; simpa using this)
        go_wp2
        go_ret
        exact ChRes.yes HWP.out HRN.out HQ.out HOY.out rfl HRY.out
end Go.Proofs.YtdflpkkcjbdpfaaDoor
namespace Go.Proofs.YtdflpkkcjbdpfaaDoor
open Go.RowKit
set_option linter.unusedSimpArgs false

theorem Only.belowB {b : Nat} {w W W' : World} (h : Only b w W) (hb : Below w.heap.size W W') : Only b w W' :=
  ⟨hb.os.trans h.os, hb.tape.trans h.tape, hb.output.trans h.output, Nat.le_trans h.size hb.size, fun k hk hne => (hb.block k hk).trans (h.block k hk hne)⟩
theorem Rd.lt {W : World} {b : Nat} {n : Int} {s : ByteArray} {p : Nat} (h : Rd W b n s p) : b < W.heap.size := RowAt.lt h
theorem Rd.keep {B : Nat} {W W' : World} {b : Nat} {n : Int} {s : ByteArray} {p : Nat} (h : Rd W b n s p) (hb : Below B W W') (hlt : b < B) : Rd W' b n s p := RowAt.keep h hb hlt
theorem New.onlyU {B b : Nat} {W W' : World} {e : TypeId} {v : Value} {xs : List Value} (h : New B W e v xs) (hlt : b < B) (ho : Only b W W') : New B W' e v xs :=
  ⟨h.own.block fun g hg => ho.block g (h.own.lt g hg) (by have := h.base g hg; omega), h.base⟩
theorem getD_lets (s : ByteArray) (p : Nat) (hp : p < s.size) : (lets s).getD p 0 = dg s p := by
  rw [List.getD_eq_getElem?_getD, List.getElem?_eq_getElem (by rw [lets_len]; exact hp)]
  simp [lets]
def PanicAt (p : Nat) : Ending := .panicked [{ v := .iface 89 (.int .i64 p), recovered := false }]
/-- a block is read, or a panic tells where it is wrong -/
def BlkRes (b : Nat) (n : Nat) (s : ByteArray) (r : Blk) (w : World) (e : Ending) (w' : World) : Prop :=
  match r with
  | .error q => e = PanicAt q ∧ Only b w w'
  | .ok (cs, p) => ∃ v, e = .returned v ∧ New w.heap.size w' 9 v (strs cs) ∧ Rd w' b n s p ∧ Only b w w'
theorem seesB_one {s : ByteArray} {p c : Nat} : seesB s p [c] = (decide (p < s.size) && decide ((lets s).getD p 0 = c)) := by
  unfold seesB
  by_cases hp : p < s.size
  · rw [getD_lets s p hp]
    simp
  · simp [hp]
theorem spanW_pos {n : Nat} {L : List Nat} {p : Nat} (h : wordP n L p ≠ []) : 0 < spanW (L.drop p) := by
  rcases Nat.eq_zero_or_pos (spanW (L.drop p)) with h0 | h0
  · exact absurd (by unfold wordP; rw [if_pos h0]) h
  · exact h0
theorem spanW_in (L : List Nat) (p : Nat) (hp : p ≤ L.length) : p + spanW (L.drop p) ≤ L.length := by
  have := spanW_le (L.drop p)
  rw [List.length_drop] at this
  omega
theorem moreP_stop (n : Nat) (L : List Nat) (f p : Nat) (h : L.length ≤ p ∨ L.getD p 0 = 44) : moreP n L (f + 1) p = .ok ([], p) := by
  conv => lhs; unfold moreP
  rw [if_pos h]
theorem moreP_bad (n : Nat) (L : List Nat) (f p : Nat) (h : ¬ (L.length ≤ p ∨ L.getD p 0 = 44)) (hw : wordP n L (nextP L p) = []) : moreP n L (f + 1) p = .error (nextP L p) := by
  conv => lhs; unfold moreP
  rw [if_neg h, if_pos hw]
theorem moreP_go (n : Nat) (L : List Nat) (f p : Nat) (h : ¬ (L.length ≤ p ∨ L.getD p 0 = 44)) (hw : wordP n L (nextP L p) ≠ []) : moreP n L (f + 1) p = Blk.cat [wordP n L (nextP L p)] (moreP n L f (nextP L p + spanW (L.drop (nextP L p)))) := by
  conv => lhs; unfold moreP
  rw [if_neg h, if_neg hw]

set_option maxRecDepth 100000 in
set_option maxHeartbeats 1000000 in
theorem block_in (n : Nat) (h3 : 3 ≤ n) (h8 : n ≤ 8) (b : Nat) (s : ByteArray) (p : Nat) (w : World) (hs : s.size ≤ 1000) (hp : p ≤ s.size) (h : Rd w b n s p) :
    Calls Tryd.prog 73 #[.pointer (some ⟨b, 0, none⟩)] w (BlkRes b n s (blockP n (lets s) p) w) := by
  have HC : Hid (∀ W q, q ≤ s.size → Rd W b n s q → Calls Tryd.prog 83 #[.pointer (some ⟨b, 0, none⟩)] W (ChRes b n s q W)) := Lib.hid (fun W q hq hr => change_in n h3 h8 b s q W hs hq hr)
  have HDN : Hid (∀ W q, Rd W b n s q → Calls Tryd.prog 84 #[.pointer (some ⟨b, 0, none⟩)] W _) := Lib.hid (fun W q hr => done_any b n s q W hr)
  have HS1 : Hid (∀ W q, q ≤ s.size → Rd W b n s q → Calls Tryd.prog 74 #[.pointer (some ⟨b, 0, none⟩), .string (txt [44])] W _) := Lib.hid (fun W q hq hr => sees_any [44] (by simp) b n s q W hq hr)
  have HS2 : Hid (∀ W q, q ≤ s.size → Rd W b n s q → Calls Tryd.prog 74 #[.pointer (some ⟨b, 0, none⟩), .string (txt [46])] W _) := Lib.hid (fun W q hq hr => sees_any [46] (by simp) b n s q W hq hr)
  have hB : b < w.heap.size := h.lt
  have hll : (lets s).length = s.size := lets_len s
  have HLL := Lib.hid hll
  have hbp : blockP n (lets s) p = if wordP n (lets s) p = [] then .error p else Blk.cat [wordP n (lets s) p] (moreP n (lets s) (lets s).length (p + spanW ((lets s).drop p))) := rfl
  have HSP := Lib.hid (spanW_in (lets s) p (by rw [hll]; exact hp))
  have HPS := Lib.hid (spanW_pos (n := n) (L := lets s) (p := p))
  generalize blockP n (lets s) p = res at *
  have HBP := Lib.hid hbp
  have HR := Lib.hid h
  obtain ⟨i0, hi0, hz0, hz1, hz2⟩ := info_parts infoText
  have I0 := Lib.hid (⟨hi0, hz0, hz1, hz2⟩ : _ ∧ _ ∧ _ ∧ _)
  clear hbp h hll hi0 hz0 hz1 hz2
  go_enter Tryd.func73, Tryd.ntmps73
  go_wp2_with fail
  refine (HC.out _ p hp HR.out).mono ?_
  rintro e w1 ⟨hon, hif⟩
  by_cases hw : wordP n (lets s) p = []
  · rw [if_pos hw] at hif
    have hbp := HBP.out
    rw [if_pos hw] at hbp
    have HRES := Lib.hid hbp
    subst hif
    exact ⟨rfl, by rw [HRES.out]; exact ⟨rfl, hon⟩⟩
  · rw [if_neg hw] at hif
    obtain ⟨rfl, hrd⟩ := hif
    have hbp := HBP.out
    rw [if_neg hw] at hbp
    have HRES := Lib.hid hbp
    have hsp := HPS.out hw
    have HQ : Hid (0 < p + spanW ((lets s).drop p) ∧ p + spanW ((lets s).drop p) ≤ s.size) := Lib.hid (by have := HSP.out; rw [HLL.out] at this; omega)
    have HX := Lib.hid (wordP_good n (lets s) p hw)
    clear hw hbp HPS HSP HBP hsp
    generalize p + spanW ((lets s).drop p) = p1 at *
    generalize wordP n (lets s) p = x at *
    have HLIT : Hid (New w.heap.size (w1.alloc (.cells #[.string (txt x)] 9)) 9 (.slice (some ⟨w1.heap.size, 0, none⟩) 1 1) (strs [x])) := Lib.hid ⟨Own.lit w1 9 [.string (txt x)] (by simp [Value.oneCell']), fun g hg => by simp [Value.ownBlock] at hg; have := hon.size; omega⟩
    have HRD : Hid (Rd (w1.alloc (.cells #[.string (txt x)] 9)) b n s p1) := Lib.hid (RowAt.push hrd _)
    have HON : Hid (Only b w (w1.alloc (.cells #[.string (txt x)] 9))) := Lib.hid (hon.trans (Only.of_below ((Below.refl _ w1).alloc (Nat.le_refl _) _)))
    clear hrd hon HR
    go_wp2
    go_loopg [3] (lets s).length (fun q v wr => ∃ acc p', Blk.cat acc (moreP n (lets s) q p') = res ∧ 0 < p' ∧ p' ≤ s.size ∧ s.size < p' + q ∧ acc.length ≤ p' ∧ New w.heap.size wr 9 v (strs acc) ∧ Rd wr b n s p' ∧ Only b w wr)
    case atStart => exact ⟨[x], p1, HRES.out.symm, HQ.out.1, HQ.out.2, by have := HQ.out; have := HLL.out; omega, by have := HQ.out; simp; omega, HLIT.out, HRD.out, HON.out⟩
    case round =>
      clear HRES HLIT HRD HON HQ HX
      obtain ⟨acc, p', hf, hp0, hps, hq, hal, hnew, hrd, hon⟩ := hrel
      obtain ⟨f, rfl⟩ : ∃ f, gk = f + 1 := ⟨gk - 1, by omega⟩
      have HF := Lib.hid hf
      have HQ := Lib.hid hq
      have HAL := Lib.hid hal
      have HN := Lib.hid hnew
      have HRD := Lib.hid hrd
      have HON := Lib.hid hon
      clear hf hq hal hnew hrd hon
      go_wp2_with fail
      refine (HDN.out _ p' HRD.out).mono ?_
      rintro e w2 ⟨rfl, k2, hk2⟩
      have HN2 : Hid (New w.heap.size w2 9 u3 (strs acc)) := Lib.hid (by rw [hk2]; exact HN.out.drewN _)
      have HRD2 : Hid (Rd w2 b n s p') := Lib.hid (by rw [hk2]; exact RowAt.drewN HRD.out _)
      have HON2 : Hid (Only b w w2) := Lib.hid (by rw [hk2]; exact HON.out.drewN _)
      clear hk2 HN HRD HON
      by_cases hend : p' = s.size
      · have hd : decide (p' = s.size) = true := decide_eq_true hend
        have HRES : Hid (res = .ok (acc, p')) := Lib.hid (by rw [← HF.out, moreP_stop n (lets s) f p' (.inl (by rw [HLL.out]; omega))]; simp [Blk.cat])
        rw [hd]
        clear hend hd
        go_wp2
        go_ret
        rw [HRES.out]
        exact ⟨_, rfl, HN2.out, HRD2.out, HON2.out⟩
      · have hd : decide (p' = s.size) = false := decide_eq_false hend
        have hlt : p' < s.size := by omega
        rw [hd]
        clear hd hend
        go_wp2_with fail
        refine (HS1.out _ p' hps HRD2.out).mono ?_
        rintro e w3 ⟨rfl, k3, hk3⟩
        have HN3 : Hid (New w.heap.size w3 9 u3 (strs acc)) := Lib.hid (by rw [hk3]; exact HN2.out.drewN _)
        have HRD3 : Hid (Rd w3 b n s p') := Lib.hid (by rw [hk3]; exact RowAt.drewN HRD2.out _)
        have HON3 : Hid (Only b w w3) := Lib.hid (by rw [hk3]; exact HON2.out.drewN _)
        clear hk3 HN2 HRD2 HON2
        rw [seesB_one, decide_eq_true hlt, Bool.true_and]
        by_cases hcm : (lets s).getD p' 0 = 44
        · have hd : decide ((lets s).getD p' 0 = 44) = true := decide_eq_true hcm
          have HRES : Hid (res = .ok (acc, p')) := Lib.hid (by rw [← HF.out, moreP_stop n (lets s) f p' (.inr hcm)]; simp [Blk.cat])
          rw [hd]
          clear hcm hd
          go_wp2
          go_ret
          rw [HRES.out]
          exact ⟨_, rfl, HN3.out, HRD3.out, HON3.out⟩
        · have hd : decide ((lets s).getD p' 0 = 44) = false := decide_eq_false hcm
          have HNS : Hid (¬ ((lets s).length ≤ p' ∨ (lets s).getD p' 0 = 44)) := Lib.hid (fun h9 => by
            rcases h9 with h9 | h9
            · rw [HLL.out] at h9; omega
            · exact hcm h9)
          rw [hd]
          clear hd hcm
          go_wp2_with fail
          refine (HS2.out _ p' hps HRD3.out).mono ?_
          rintro e w4 ⟨rfl, k4, hk4⟩
          have HN4 : Hid (New w.heap.size w4 9 u3 (strs acc)) := Lib.hid (by rw [hk4]; exact HN3.out.drewN _)
          have HRD4 : Hid (Rd w4 b n s p') := Lib.hid (by rw [hk4]; exact RowAt.drewN HRD3.out _)
          have HON4 : Hid (Only b w w4) := Lib.hid (by rw [hk4]; exact HON3.out.drewN _)
          clear hk4 HN3 HRD3 HON3
          rw [seesB_one, decide_eq_true hlt, Bool.true_and]
          have c2 := HRD4.out.cell 2 rfl
          have f2 := HRD4.out.free 2
          have hpi : (p' : Int) ≤ 1000 := by omega
          by_cases hdot : (lets s).getD p' 0 = 46
          · have hd : decide ((lets s).getD p' 0 = 46) = true := decide_eq_true hdot
            have hnp : nextP (lets s) p' = p' + 1 := by unfold nextP; rw [if_pos hdot]
            have HN5 : Hid (New w.heap.size (w4.setCell ⟨b, 2, none⟩ (.int .i64 ((p' : Int) + 1))) 9 u3 (strs acc)) := Lib.hid (HN4.out.onlyU hB (Only.set w4 2 _))
            have HRD5 : Hid (Rd (w4.setCell ⟨b, 2, none⟩ (.int .i64 ((p' : Int) + 1))) b n s (nextP (lets s) p')) := Lib.hid (by rw [hnp]; exact HRD4.out.next)
            have HON5 : Hid (Only b w (w4.setCell ⟨b, 2, none⟩ (.int .i64 ((p' : Int) + 1)))) := Lib.hid (HON4.out.setInt _)
            have HNP : Hid (nextP (lets s) p' ≤ s.size ∧ p' ≤ nextP (lets s) p') := Lib.hid (by rw [hnp]; omega)
            rw [hd]
            clear hd hdot hnp HN4 HRD4 HON4
            go_wp2_with fail
            generalize w4.setCell ⟨b, 2, none⟩ (.int .i64 ((p' : Int) + 1)) = w5 at *
            clear c2 f2
            refine (HC.out _ (nextP (lets s) p') HNP.out.1 HRD5.out).mono ?_
            rintro e w6 ⟨hon6, hif⟩
            by_cases hw : wordP n (lets s) (nextP (lets s) p') = []
            · rw [if_pos hw] at hif
              have HRES : Hid (res = .error (nextP (lets s) p')) := Lib.hid (by rw [← HF.out, moreP_bad n (lets s) f p' HNS.out hw]; rfl)
              subst hif
              exact ⟨rfl, by rw [HRES.out]; exact ⟨rfl, HON5.out.trans hon6⟩⟩
            · rw [if_neg hw] at hif
              obtain ⟨rfl, hrd6⟩ := hif
              have hstep := moreP_go n (lets s) f p' HNS.out hw
              have hspos := spanW_pos hw
              have hsin := spanW_in (lets s) (nextP (lets s) p') (by rw [HLL.out]; exact HNP.out.1)
              rw [HLL.out] at hsin
              have hf := HF.out
              rw [hstep, Blk.cat_cat] at hf
              have HF6 := Lib.hid hf
              have HNP6 : Hid (p' < nextP (lets s) p' + spanW ((lets s).drop (nextP (lets s) p')) ∧ nextP (lets s) p' + spanW ((lets s).drop (nextP (lets s) p')) ≤ s.size) := Lib.hid (by have := HNP.out; omega)
              have HN6 := Lib.hid (HN5.out.onlyU hB hon6)
              have HRD6 := Lib.hid hrd6
              have HON6 := Lib.hid (HON5.out.trans hon6)
              clear hw hstep hspos hsin hf hrd6 hon6 HF HN5 HRD5 HON5 HNP HNS
              generalize nextP (lets s) p' + spanW ((lets s).drop (nextP (lets s) p')) = p6 at *
              generalize wordP n (lets s) (nextP (lets s) p') = y at *
              have hal9 : (strs acc).length ≤ 100000 := by rw [strs_len]; have := HAL.out; omega
              go_wp2_with (at_builtin; refine wpList_app1 rfl (.tmp 24) (.tmp 27) 24 rfl 9 i0 (.string ⟨#[]⟩) 16 Tryd.underlying24 I0.out.1 I0.out.2.1 I0.out.2.2.1 I0.out.2.2.2 rfl w.heap.size _ _ (strs acc) rfl HN6.out rfl rfl HON6.out.size (Below.refl _ _) hal9 (by omega) ?_)
              intro v7 w7 hn7 _ hb7 _
              rw [strs_snoc] at hn7
              have HN7 := Lib.hid hn7
              have HRD7 := Lib.hid (HRD6.out.keep hb7 hB)
              have HON7 := Lib.hid (HON6.out.belowB hb7)
              clear hn7 hb7 HN6 HRD6 HON6
              go_wp2
              go_roundg f
              case measure => omega
              case rel => exact ⟨acc ++ [y], p6, HF6.out, by have := HNP6.out; omega, HNP6.out.2, by have := HNP6.out; have := HQ.out; omega, by have := HNP6.out; have := HAL.out; simp; omega, HN7.out, HRD7.out, HON7.out⟩
          · have hd : decide ((lets s).getD p' 0 = 46) = false := decide_eq_false hdot
            have hnp : nextP (lets s) p' = p' := by unfold nextP; rw [if_neg hdot]
            have HN5 := HN4
            have HRD5 : Hid (Rd w4 b n s (nextP (lets s) p')) := Lib.hid (by rw [hnp]; exact HRD4.out)
            have HON5 := HON4
            have HNP : Hid (nextP (lets s) p' ≤ s.size ∧ p' ≤ nextP (lets s) p') := Lib.hid (by rw [hnp]; omega)
            rw [hd]
            clear hd hdot hnp HN4 HRD4 HON4 c2 f2
            go_wp2_with fail
            generalize w4 = w5 at *
            refine (HC.out _ (nextP (lets s) p') HNP.out.1 HRD5.out).mono ?_
            rintro e w6 ⟨hon6, hif⟩
            by_cases hw : wordP n (lets s) (nextP (lets s) p') = []
            · rw [if_pos hw] at hif
              have HRES : Hid (res = .error (nextP (lets s) p')) := Lib.hid (by rw [← HF.out, moreP_bad n (lets s) f p' HNS.out hw]; rfl)
              subst hif
              exact ⟨rfl, by rw [HRES.out]; exact ⟨rfl, HON5.out.trans hon6⟩⟩
            · rw [if_neg hw] at hif
              obtain ⟨rfl, hrd6⟩ := hif
              have hstep := moreP_go n (lets s) f p' HNS.out hw
              have hspos := spanW_pos hw
              have hsin := spanW_in (lets s) (nextP (lets s) p') (by rw [HLL.out]; exact HNP.out.1)
              rw [HLL.out] at hsin
              have hf := HF.out
              rw [hstep, Blk.cat_cat] at hf
              have HF6 := Lib.hid hf
              have HNP6 : Hid (p' < nextP (lets s) p' + spanW ((lets s).drop (nextP (lets s) p')) ∧ nextP (lets s) p' + spanW ((lets s).drop (nextP (lets s) p')) ≤ s.size) := Lib.hid (by have := HNP.out; omega)
              have HN6 := Lib.hid (HN5.out.onlyU hB hon6)
              have HRD6 := Lib.hid hrd6
              have HON6 := Lib.hid (HON5.out.trans hon6)
              clear hw hstep hspos hsin hf hrd6 hon6 HF HN5 HRD5 HON5 HNP HNS
              generalize nextP (lets s) p' + spanW ((lets s).drop (nextP (lets s) p')) = p6 at *
              generalize wordP n (lets s) (nextP (lets s) p') = y at *
              have hal9 : (strs acc).length ≤ 100000 := by rw [strs_len]; have := HAL.out; omega
              go_wp2_with (at_builtin; refine wpList_app1 rfl (.tmp 24) (.tmp 27) 24 rfl 9 i0 (.string ⟨#[]⟩) 16 Tryd.underlying24 I0.out.1 I0.out.2.1 I0.out.2.2.1 I0.out.2.2.2 rfl w.heap.size _ _ (strs acc) rfl HN6.out rfl rfl HON6.out.size (Below.refl _ _) hal9 (by omega) ?_)
              intro v7 w7 hn7 _ hb7 _
              rw [strs_snoc] at hn7
              have HN7 := Lib.hid hn7
              have HRD7 := Lib.hid (HRD6.out.keep hb7 hB)
              have HON7 := Lib.hid (HON6.out.belowB hb7)
              clear hn7 hb7 HN6 HRD6 HON6
              go_wp2
              go_roundg f
              case measure => omega
              case rel => exact ⟨acc ++ [y], p6, HF6.out, by have := HNP6.out; omega, HNP6.out.2, by have := HNP6.out; have := HQ.out; omega, by have := HNP6.out; have := HAL.out; simp; omega, HN7.out, HRD7.out, HON7.out⟩
end Go.Proofs.YtdflpkkcjbdpfaaDoor
namespace Go.Proofs.YtdflpkkcjbdpfaaDoor
open Go.RowKit
set_option linter.unusedSimpArgs false

theorem infoTexts : (Tryd.prog.info? 24).map (fun i => (i.zero, i.size, i.bytes)) = some (some (.slice none 0 0), 1, 24) := by kernel_rfl
/-- new lists of texts, each in a slice of its own -/
structure LS (B : Nat) (W : World) (v : Value) (vs : List Value) (ll : List (List (List Nat))) : Prop where
  own : New B W 24 v vs
  len : vs.length = ll.length
  one : ∀ u ∈ vs, u.oneCell' = true
  inner : ∀ i (h : i < ll.length), ∃ u, vs[i]? = some u ∧ New B W 9 u (strs ll[i])
theorem own_one {W : World} {e : TypeId} {v : Value} {xs : List Value} (h : Own W e v xs) : v.oneCell' = true := by
  rcases h.shape with ⟨rfl, _⟩ | ⟨g, cap, rfl, _⟩ <;> rfl
theorem LS.nil (B : Nat) (W : World) : LS B W (.slice none 0 0) [] [] := ⟨New.nil _ _ _, rfl, by simp, fun i h => by simp at h⟩
theorem LS.kept {B : Nat} {W W' : World} {v : Value} {vs : List Value} {ll : List (List (List Nat))} (h : LS B W v vs ll) (hb : Below W.heap.size W W') : LS B W' v vs ll :=
  ⟨h.own.kept hb, h.len, h.one, fun i hi => by obtain ⟨u, h1, h2⟩ := h.inner i hi; exact ⟨u, h1, h2.kept hb⟩⟩
theorem LS.only {B b : Nat} {W W' : World} {v : Value} {vs : List Value} {ll : List (List (List Nat))} (h : LS B W v vs ll) (hlt : b < B) (ho : Only b W W') : LS B W' v vs ll :=
  ⟨h.own.onlyU hlt ho, h.len, h.one, fun i hi => by obtain ⟨u, h1, h2⟩ := h.inner i hi; exact ⟨u, h1, h2.onlyU hlt ho⟩⟩
theorem LS.drewN {B : Nat} {W : World} {v : Value} {vs : List Value} {ll : List (List (List Nat))} (h : LS B W v vs ll) (k : Nat) : LS B (W.drewN k) v vs ll :=
  ⟨h.own.drewN k, h.len, h.one, fun i hi => by obtain ⟨u, h1, h2⟩ := h.inner i hi; exact ⟨u, h1, h2.drewN k⟩⟩
theorem LS.lower {B B' : Nat} {W : World} {v : Value} {vs : List Value} {ll : List (List (List Nat))} (h : LS B W v vs ll) (hB : B' ≤ B) : LS B' W v vs ll :=
  ⟨h.own.lower hB, h.len, h.one, fun i hi => by obtain ⟨u, h1, h2⟩ := h.inner i hi; exact ⟨u, h1, h2.lower hB⟩⟩
/-- one list more -/
theorem LS.add {B : Nat} {W W' : World} {v v' u : Value} {vs : List Value} {ll : List (List (List Nat))} {l : List (List Nat)} (h : LS B W v vs ll) (hu : New B W 9 u (strs l)) (hn : New B W' 24 v' (vs ++ [u])) (hk : KeptBut W W' v) : LS B W' v' (vs ++ [u]) (ll ++ [l]) := by
  have hlen := h.len
  have hin : ∀ u xs, New B W 9 u xs → New B W' 9 u xs := fun u xs hu => ⟨hu.own.block fun g hg => hk g (hu.own.lt g hg) (fun e => hu.own.apart h.own.own (by decide) g hg e), hu.base⟩
  refine ⟨hn, by simp [hlen], fun x hx => ?_, fun i hi => ?_⟩
  · rcases List.mem_append.1 hx with q | q
    · exact h.one x q
    · simp at q; subst q; exact own_one hu.own
  · by_cases hlt : i < ll.length
    · obtain ⟨u, h1, h2⟩ := h.inner i hlt
      refine ⟨u, by rw [List.getElem?_append_left (by omega)]; exact h1, ?_⟩
      rw [List.getElem_append_left hlt]
      exact hin _ _ h2
    · have hi2 : i = ll.length := by simp at hi; omega
      subst hi2
      refine ⟨u, by rw [List.getElem?_append_right (by omega), hlen]; simp, ?_⟩
      rw [List.getElem_append_right (by omega)]
      simpa using hin _ _ hu
theorem LS.first {B : Nat} {W : World} {u : Value} {l : List (List Nat)} (hB : B ≤ W.heap.size) (hu : New B W 9 u (strs l)) : LS B (W.alloc (.cells #[u] 24)) (.slice (some ⟨W.heap.size, 0, none⟩) 1 1) [u] [l] :=
  ⟨⟨Own.lit W 24 [u] (by simp), fun g hg => by simp [Value.ownBlock] at hg; omega⟩, rfl, fun x hx => by simp at hx; subst hx; exact own_one hu.own, fun i hi => by
    obtain rfl : i = 0 := by simp at hi; omega
    exact ⟨u, rfl, hu.kept ((Below.refl _ W).alloc (Nat.le_refl _) _)⟩⟩

/-- the blocks are read, or a panic tells where one is wrong -/
def BlksRes (b : Nat) (r : Blks) (w : World) (e : Ending) (w' : World) : Prop :=
  match r with
  | .error q => e = PanicAt q ∧ Only b w w'
  | .ok bs => ∃ v vs, e = .returned v ∧ LS w.heap.size w' v vs bs ∧ Only b w w'
theorem moreB_stop (n : Nat) (L : List Nat) (f p : Nat) (h : L.length ≤ p ∨ L.getD p 0 ≠ 44) : moreB n L (f + 1) p = .ok [] := by
  conv => lhs; unfold moreB
  rw [if_pos h]
theorem moreB_bad (n : Nat) (L : List Nat) (f p q : Nat) (h : ¬ (L.length ≤ p ∨ L.getD p 0 ≠ 44)) (hb : blockP n L (p + 1) = .error q) : moreB n L (f + 1) p = .error q := by
  conv => lhs; unfold moreB
  rw [if_neg h, hb]
theorem moreB_go (n : Nat) (L : List Nat) (f p q : Nat) (cs : List (List Nat)) (h : ¬ (L.length ≤ p ∨ L.getD p 0 ≠ 44)) (hb : blockP n L (p + 1) = .ok (cs, q)) : moreB n L (f + 1) p = Blks.cat [cs] (moreB n L f q) := by
  conv => lhs; unfold moreB
  rw [if_neg h, hb]

set_option maxRecDepth 100000 in
set_option maxHeartbeats 1000000 in
theorem blocks_in (n : Nat) (h3 : 3 ≤ n) (h8 : n ≤ 8) (b : Nat) (s : ByteArray) (w : World) (hs : s.size ≤ 1000) (h : Rd w b n s 0) :
    Calls Tryd.prog 67 #[.pointer (some ⟨b, 0, none⟩)] w (BlksRes b (blocksP n (lets s)) w) := by
  have HC : Hid (∀ W q, q ≤ s.size → Rd W b n s q → Calls Tryd.prog 73 #[.pointer (some ⟨b, 0, none⟩)] W (BlkRes b n s (blockP n (lets s) q) W)) := Lib.hid (fun W q hq hr => block_in n h3 h8 b s q W hs hq hr)
  have HS1 : Hid (∀ W q, q ≤ s.size → Rd W b n s q → Calls Tryd.prog 74 #[.pointer (some ⟨b, 0, none⟩), .string (txt [44])] W _) := Lib.hid (fun W q hq hr => sees_any [44] (by simp) b n s q W hq hr)
  have hB : b < w.heap.size := h.lt
  have HLL := Lib.hid (lets_len s)
  have hbp : blocksP n (lets s) = match blockP n (lets s) 0 with
    | .error e => .error e
    | .ok (cs, p') => Blks.cat [cs] (moreB n (lets s) (lets s).length p') := rfl
  generalize blocksP n (lets s) = res at *
  have HBP := Lib.hid hbp
  have HR := Lib.hid h
  obtain ⟨i0, hi0, hz0, hz1, hz2⟩ := info_parts infoTexts
  have I0 := Lib.hid (⟨hi0, hz0, hz1, hz2⟩ : _ ∧ _ ∧ _ ∧ _)
  clear hbp h hi0 hz0 hz1 hz2
  go_enter Tryd.func67, Tryd.ntmps67
  go_wp2_with fail
  refine (HC.out _ 0 (Nat.zero_le _) HR.out).mono ?_
  intro e w1 hres
  cases hb0 : blockP n (lets s) 0 with
  | error q =>
    rw [hb0] at hres
    obtain ⟨rfl, hon⟩ := hres
    have hbp := HBP.out
    rw [hb0] at hbp
    exact ⟨rfl, by rw [hbp]; exact ⟨rfl, hon⟩⟩
  | ok x =>
    obtain ⟨cs, p1⟩ := x
    rw [hb0] at hres
    obtain ⟨v1, rfl, hn1, hrd, hon⟩ := hres
    have hbp := HBP.out
    rw [hb0] at hbp
    have HRES : Hid (res = Blks.cat [cs] (moreB n (lets s) (lets s).length p1)) := Lib.hid hbp
    have hend := blockP_end n (lets s) 0 cs p1 hb0
    rw [HLL.out] at hend
    have HQ : Hid (0 < p1 ∧ p1 ≤ s.size) := Lib.hid ⟨hend.1, hend.2.1⟩
    have HLS := Lib.hid (LS.first hon.size hn1)
    have HRD : Hid (Rd (w1.alloc (.cells #[v1] 24)) b n s p1) := Lib.hid (RowAt.push hrd _)
    have HON : Hid (Only b w (w1.alloc (.cells #[v1] 24))) := Lib.hid (hon.trans (Only.of_below ((Below.refl _ w1).alloc (Nat.le_refl _) _)))
    obtain ⟨a1, cap1, rfl, _⟩ := hn1.own.view
    clear hbp hend hb0 hn1 hrd hon HR HBP
    go_wp2
    go_loopg [3] (lets s).length (fun q v wr => ∃ acc p' vs, Blks.cat acc (moreB n (lets s) q p') = res ∧ 0 < p' ∧ p' ≤ s.size ∧ s.size < p' + q ∧ acc.length ≤ p' ∧ LS w.heap.size wr v vs acc ∧ Rd wr b n s p' ∧ Only b w wr)
    case atStart => exact ⟨[cs], p1, _, HRES.out.symm, HQ.out.1, HQ.out.2, by have := HQ.out; have := HLL.out; omega, by have := HQ.out; simp; omega, HLS.out, HRD.out, HON.out⟩
    case round =>
      clear HRES HLS HRD HON HQ
      obtain ⟨acc, p', vs, hf, hp0, hps, hq, hal, hls, hrd, hon⟩ := hrel
      obtain ⟨f, rfl⟩ : ∃ f, gk = f + 1 := ⟨gk - 1, by omega⟩
      have HF := Lib.hid hf
      have HQ := Lib.hid hq
      have HAL := Lib.hid hal
      have HN := Lib.hid hls
      have HRD := Lib.hid hrd
      have HON := Lib.hid hon
      clear hf hq hal hls hrd hon
      go_wp2_with fail
      refine (HS1.out _ p' hps HRD.out).mono ?_
      rintro e w3 ⟨rfl, k3, hk3⟩
      have HN3 : Hid (LS w.heap.size w3 u3 vs acc) := Lib.hid (by rw [hk3]; exact HN.out.drewN _)
      have HRD3 : Hid (Rd w3 b n s p') := Lib.hid (by rw [hk3]; exact RowAt.drewN HRD.out _)
      have HON3 : Hid (Only b w w3) := Lib.hid (by rw [hk3]; exact HON.out.drewN _)
      clear hk3 HN HRD HON
      rw [seesB_one]
      by_cases hst : s.size ≤ p' ∨ (lets s).getD p' 0 ≠ 44
      · have hd : (decide (p' < s.size) && decide ((lets s).getD p' 0 = 44)) = false := by
          rw [Bool.and_eq_false_iff, decide_eq_false_iff_not, decide_eq_false_iff_not]
          rcases hst with h9 | h9
          · left; omega
          · right; exact h9
        have HRES : Hid (res = .ok acc) := Lib.hid (by rw [← HF.out, moreB_stop n (lets s) f p' (by rw [HLL.out]; exact hst)]; simp [Blks.cat])
        rw [hd]
        clear hst hd
        go_wp2
        go_ret
        rw [HRES.out]
        exact ⟨_, _, rfl, HN3.out, HON3.out⟩
      · have hd : (decide (p' < s.size) && decide ((lets s).getD p' 0 = 44)) = true := by
          rw [Bool.and_eq_true, decide_eq_true_eq, decide_eq_true_eq]
          exact ⟨by omega, by
            rcases Nat.decEq ((lets s).getD p' 0) 44 with h9 | h9
            · exact absurd (.inr h9) hst
            · exact h9⟩
        have HST : Hid (¬ ((lets s).length ≤ p' ∨ (lets s).getD p' 0 ≠ 44)) := Lib.hid (by rw [HLL.out]; exact hst)
        have hlt : p' < s.size := by omega
        have c2 := HRD3.out.cell 2 rfl
        have f2 := HRD3.out.free 2
        have hpi : (p' : Int) ≤ 1000 := by omega
        have HN5 : Hid (LS w.heap.size (w3.setCell ⟨b, 2, none⟩ (.int .i64 ((p' : Int) + 1))) u3 vs acc) := Lib.hid (HN3.out.only hB (Only.set w3 2 _))
        have HRD5 : Hid (Rd (w3.setCell ⟨b, 2, none⟩ (.int .i64 ((p' : Int) + 1))) b n s (p' + 1)) := Lib.hid HRD3.out.next
        have HON5 : Hid (Only b w (w3.setCell ⟨b, 2, none⟩ (.int .i64 ((p' : Int) + 1)))) := Lib.hid (HON3.out.setInt _)
        rw [hd]
        clear hst hd HN3 HRD3 HON3
        go_wp2_with fail
        generalize w3.setCell ⟨b, 2, none⟩ (.int .i64 ((p' : Int) + 1)) = w5 at *
        clear c2 f2
        refine (HC.out _ (p' + 1) (by omega) HRD5.out).mono ?_
        intro e w6 hres
        cases hb6 : blockP n (lets s) (p' + 1) with
        | error q =>
          rw [hb6] at hres
          obtain ⟨rfl, hon6⟩ := hres
          have HRES : Hid (res = .error q) := Lib.hid (by rw [← HF.out, moreB_bad n (lets s) f p' q HST.out hb6]; rfl)
          exact ⟨rfl, by rw [HRES.out]; exact ⟨rfl, HON5.out.trans hon6⟩⟩
        | ok x =>
          obtain ⟨cs6, p6⟩ := x
          rw [hb6] at hres
          obtain ⟨v6, rfl, hn6, hrd6, hon6⟩ := hres
          have hf := HF.out
          rw [moreB_go n (lets s) f p' p6 cs6 HST.out hb6, Blks.cat_cat] at hf
          have HF6 := Lib.hid hf
          have hend := blockP_end n (lets s) (p' + 1) cs6 p6 hb6
          rw [HLL.out] at hend
          have HNP6 : Hid (p' < p6 ∧ p6 ≤ s.size) := Lib.hid ⟨by omega, hend.2.1⟩
          have HN6 := Lib.hid (HN5.out.only hB hon6)
          have HRD6 := Lib.hid hrd6
          have HON6 := Lib.hid (HON5.out.trans hon6)
          have HV6 := Lib.hid (hn6.lower HON5.out.size)
          obtain ⟨a6, cap6, rfl, _⟩ := hn6.own.view
          clear hf hend hb6 hn6 hrd6 hon6 HF HN5 HRD5 HON5 HST
          have hal9 : vs.length ≤ 100000 := by rw [HN6.out.len]; have := HAL.out; omega
          go_wp2_with (at_builtin; refine wpList_app1 rfl (.tmp 16) (.tmp 19) 62 rfl 24 i0 (.slice none 0 0) 24 Tryd.underlying62 I0.out.1 I0.out.2.1 I0.out.2.2.1 I0.out.2.2.2 rfl w.heap.size _ _ vs rfl HN6.out.own rfl rfl HON6.out.size (Below.refl _ _) hal9 (by omega) ?_)
          intro v7 w7 hn7 hk7 hb7 _
          have HN7 := Lib.hid (HN6.out.add HV6.out hn7 hk7)
          have HRD7 := Lib.hid (HRD6.out.keep hb7 hB)
          have HON7 := Lib.hid (HON6.out.belowB hb7)
          clear hn7 hk7 hb7 HN6 HRD6 HON6 HV6
          go_wp2
          go_roundg f
          case measure => omega
          case rel => exact ⟨acc ++ [cs6], p6, _, HF6.out, by have := HNP6.out; omega, HNP6.out.2, by have := HNP6.out; have := HQ.out; omega, by have := HNP6.out; have := HAL.out; simp; omega, HN7.out, HRD7.out, HON7.out⟩
end Go.Proofs.YtdflpkkcjbdpfaaDoor
namespace Go.Proofs.YtdflpkkcjbdpfaaDoor
open Go.RowKit
set_option linter.unusedSimpArgs false

theorem assert_yes (q : Int) (W : World) : (Instr.typeAssert (.iface 89 (.int .i64 q)) 20 89 true).run Tryd.prog W = .ok (.tuple #[.int .i64 q, .bool true]) W := by kernel_rfl
theorem assert_no (W : World) : (Instr.typeAssert .nilIface 20 89 true).run Tryd.prog W = .ok (.tuple #[.int .i64 0, .bool false]) W := by kernel_rfl
set_option maxRecDepth 100000 in
set_option maxHeartbeats 1000000 in
theorem catch_panic (p : Addr) (x q : Int) (older : List PanicEntry) (w : World) (hc : w.cell? p = some (.int .i64 x)) (hz : w.frozen? p = false) :
    CallsD Tryd.prog 66 #[.pointer (some p)] (.panicking ({ v := .iface 89 (.int .i64 q), recovered := false } :: older)) w fun e u' w' =>
      e = .returned (.tuple #[]) ∧ u' = .panicking ({ v := .iface 89 (.int .i64 q), recovered := true } :: older) ∧ w' = w.setCell p (.int .i64 q) := by
  refine callsD_of_wpS Tryd.func66 rfl fun c₀ cs hu => ?_
  apply wpS_seq
  apply wpS_region
  simp [wpOpsS, go_sem, recoverD, hu, assert_yes, Tryd.ntmps66, Exit.thenS]
  apply wpS_seq
  apply wpS_region
  simp [wpOpsS, go_sem, Exit.thenS]
  refine wpS_cond (t := true) (by simp [Act.eval, Array.replicate]) ?_
  simp only [if_true]
  apply wpS_region
  simp [wpOpsS, go_sem, hc, hz, bodyPostS, results, Tryd.results66]

set_option maxRecDepth 100000 in
set_option maxHeartbeats 1000000 in
theorem catch_idle (p : Addr) (w : World) :
    CallsD Tryd.prog 66 #[.pointer (some p)] .returning w fun e u' w' => e = .returned (.tuple #[]) ∧ u' = .returning ∧ w' = w := by
  refine callsD_of_wpS Tryd.func66 rfl fun c₀ cs hu => ?_
  apply wpS_seq
  apply wpS_region
  simp [wpOpsS, go_sem, recoverD, hu, assert_no, Tryd.ntmps66, Exit.thenS]
  apply wpS_seq
  apply wpS_region
  simp [wpOpsS, go_sem, Exit.thenS]
  refine wpS_cond (t := false) (by simp [Act.eval, Array.replicate]) ?_
  simp only [Bool.false_eq_true, if_false]
  refine wpS_of_wp (wp_skip ?_)
  cases c₀
  simp_all [bodyPostS, results, Tryd.results66]

/-- all blocks, or where one is wrong -/
def RbRes (r : Blks) (w : World) (e : Ending) (w' : World) : Prop :=
  Below w.heap.size w w' ∧ match r with
  | .error q => e = .returned (.tuple #[.slice none 0 0, .int .i64 q, .bool false])
  | .ok bs => ∃ v vs, e = .returned (.tuple #[v, .int .i64 0, .bool true]) ∧ LS w.heap.size w' v vs bs

set_option maxRecDepth 100000 in
set_option maxHeartbeats 1000000 in
theorem readBlocks_in (n : Nat) (h3 : 3 ≤ n) (h8 : n ≤ 8) (s : ByteArray) (w : World) (hs : s.size ≤ 1000) :
    Calls Tryd.prog 46 #[.int .i64 n, .string s] w (RbRes (blocksP n (lets s)) w) := by
  have hmf : ∀ (fn : Fn) (first cap : Array Value) (w : World), (Instr.makeFunc fn first cap).run Tryd.prog w = .ok (.func fn first cap) w := fun _ _ _ _ => rfl
  have HC : Hid (∀ W b, Rd W b n s 0 → Calls Tryd.prog 67 #[.pointer (some ⟨b, 0, none⟩)] W (BlksRes b (blocksP n (lets s)) W)) := Lib.hid (fun W b hr => blocks_in n h3 h8 b s W hs hr)
  generalize blocksP n (lets s) = res at *
  have hsz : (w.alloc (.cells #[.int .i64 0] 3)).heap.size = w.heap.size + 1 := by simp
  have HRD : Hid (Rd ((w.alloc (.cells #[.int .i64 0] 3)).alloc (.cells #[.int .i64 n, .string s, .int .i64 0] 92)) (w.heap.size + 1) n s 0) := Lib.hid (by rw [← hsz]; exact RowAt.new _ _ _)
  have HOF : Hid (RowAt ((w.alloc (.cells #[.int .i64 0] 3)).alloc (.cells #[.int .i64 n, .string s, .int .i64 0] 92)) w.heap.size 3 #[.int .i64 0]) := Lib.hid (RowAt.push (RowAt.new _ _ _) _)
  have HBB : Hid (Below w.heap.size w ((w.alloc (.cells #[.int .i64 0] 3)).alloc (.cells #[.int .i64 n, .string s, .int .i64 0] 92)) ∧ ((w.alloc (.cells #[.int .i64 0] 3)).alloc (.cells #[.int .i64 n, .string s, .int .i64 0] 92)).heap.size = w.heap.size + 2) := Lib.hid ⟨((Below.refl _ w).alloc (Nat.le_refl _) _).alloc (by simp) _, by simp⟩
  clear hsz
  go_enter_defers Tryd.func46, Tryd.ntmps46
  go_wp2_with fail
  generalize (w.alloc (.cells #[.int .i64 0] 3)).alloc (.cells #[.int .i64 n, .string s, .int .i64 0] 92) = w1 at *
  refine (HC.out _ _ HRD.out).mono ?_
  intro e w2 hres
  cases res with
  | error q =>
    obtain ⟨rfl, hon⟩ := hres
    have HO2 := Lib.hid (RowAt.only HOF.out hon (by omega))
    have HB2 : Hid (Below w.heap.size w w2) := Lib.hid (HBB.out.1.trans ((hon.below (by have := HBB.out.2; omega)).mono (by omega)))
    clear hon HC
    refine leaves_cons (f := 66) (args := #[.pointer (some ⟨w.heap.size, 0, none⟩)]) (by simp) (by simp [go_sem]) ?_
    refine (catch_panic ⟨w.heap.size, 0, none⟩ 0 q [] _ (HO2.out.cell 0 rfl) (HO2.out.free 0)).mono ?_
    rintro e u' w3 ⟨rfl, rfl, rfl⟩
    have c0 := (HO2.out.set 0 (.int .i64 q)).cell 0 rfl
    have HB3 := Lib.hid (HB2.out.setCell (p := ⟨w.heap.size, 0, none⟩) (Nat.le_refl _) (.int .i64 q))
    simp only [Leaves, settle, List.dropWhile_nil]
    refine ⟨.tuple #[.slice none 0 0, .int .i64 q, .bool false], ?_, HB3.out, rfl⟩
    simp [results, Tryd.results46, go_sem, c0]
  | ok bs =>
    obtain ⟨v, vs, rfl, hls, hon⟩ := hres
    have HO2 := Lib.hid (RowAt.only HOF.out hon (by omega))
    have HB2 : Hid (Below w.heap.size w w2) := Lib.hid (HBB.out.1.trans ((hon.below (by have := HBB.out.2; omega)).mono (by omega)))
    have HLS := Lib.hid hls
    have c0 := HO2.out.cell 0 rfl
    have f0 := HO2.out.free 0
    clear hon HC hls
    go_wp2
    have c1 := (HO2.out.set 0 (.int .i64 0)).cell 0 rfl
    have HB3 := Lib.hid (HB2.out.setCell (p := ⟨w.heap.size, 0, none⟩) (Nat.le_refl _) (.int .i64 0))
    have HLS3 : Hid (LS w.heap.size (w2.setCell ⟨w.heap.size, 0, none⟩ (.int .i64 0)) v vs bs) := Lib.hid ((HLS.out.only (b := w.heap.size) (by have := HBB.out.2; omega) (Only.set w2 0 _)).lower (by have := HBB.out.2; omega))
    refine leaves_cons (f := 66) (args := #[.pointer (some ⟨w.heap.size, 0, none⟩)]) (by simp) (by simp [go_sem]) ?_
    refine (catch_idle ⟨w.heap.size, 0, none⟩ _).mono ?_
    rintro e u' w3 ⟨rfl, rfl, rfl⟩
    simp only [Leaves, settle]
    refine ⟨.tuple #[v, .int .i64 0, .bool true], ?_, HB3.out, v, vs, rfl, HLS3.out⟩
    simp [results, Tryd.results46, go_sem, c1]
end Go.Proofs.YtdflpkkcjbdpfaaDoor
namespace Go.Proofs.YtdflpkkcjbdpfaaDoor
open Go.RowKit
set_option linter.unusedSimpArgs false

def joinP (bs : List (List (List Nat))) : List (List Nat) := if bs.length = 1 then bs.flatten else bs.flatMap pal
def joinOk (bs : List (List (List Nat))) : Bool := decide (bs.length ≤ 4) && decide ((joinP bs).length ≤ 40)
/-- the list, if there are not too many blocks and changes -/
def JoinRes (bs : List (List (List Nat))) (w : World) (B : Nat) (e : Ending) (w' : World) : Prop :=
  ∃ v, e = .returned (.tuple #[v, .bool (joinOk bs)]) ∧ (joinOk bs = true → New B w' 9 v (strs (joinP bs))) ∧ Below w.heap.size w w'
theorem palOk_iff {α : Type} (xs : List α) (h : xs ≠ []) : palOk xs = decide ((pal xs).length ≤ 40) := by
  have h0 : 0 < xs.length := List.length_pos_iff.2 h
  unfold palOk
  rw [pal_len, Bool.eq_iff_iff, decide_eq_true_eq, decide_eq_true_eq]
  omega

def accP (bs : List (List (List Nat))) (j : Nat) : List (List Nat) := (bs.take j).flatMap pal
theorem accP_step (bs : List (List (List Nat))) (j : Nat) (hj : j < bs.length) : accP bs (j + 1) = accP bs j ++ pal bs[j] := by
  unfold accP
  rw [List.take_succ_eq_append_getElem hj, List.flatMap_append]
  simp
theorem accP_all (bs : List (List (List Nat))) : accP bs bs.length = bs.flatMap pal := by simp [accP]
theorem accP_le (bs : List (List (List Nat))) (j : Nat) : (accP bs j).length ≤ (bs.flatMap pal).length := by
  unfold accP
  conv => rhs; rw [← List.take_append_drop j bs, List.flatMap_append, List.length_append]
  omega
theorem joinOk_false {bs : List (List (List Nat))} {j : Nat} (h1 : bs.length ≠ 1) (h : 40 < (accP bs j).length) : joinOk bs = false := by
  have := accP_le bs j
  unfold joinOk joinP
  rw [if_neg h1, decide_eq_false (show ¬ (bs.flatMap pal).length ≤ 40 by omega), Bool.and_false]
set_option maxRecDepth 100000 in
set_option maxHeartbeats 1000000 in
theorem joinBlocks_any (v : Value) (vs : List Value) (bs : List (List (List Nat))) (B : Nat) (w : World) (h : LS B w v vs bs) (hBw : B ≤ w.heap.size) (hl : 1 ≤ bs.length ∧ bs.length ≤ 1000) (hne : ∀ b ∈ bs, b ≠ []) (hb1 : ∀ b ∈ bs, b.length ≤ 1000) :
    Calls Tryd.prog 47 #[v] w (JoinRes bs w B) := by
  obtain ⟨m, hm⟩ : ∃ m, bs.length = m := ⟨_, rfl⟩
  have HLS := Lib.hid h
  obtain ⟨a, cap, rfl, ha⟩ := h.own.own.view
  have hvl : vs.length = m := by rw [h.len, hm]
  rw [hvl] at ha HLS ⊢
  rw [hm] at hl
  have hmi : (m : Int) ≤ 1000 := by omega
  have HM := Lib.hid hm
  have HA := Lib.hid ha
  have HNE := Lib.hid hne
  have HB1 := Lib.hid hb1
  clear h ha hm hvl hne hb1
  by_cases h4 : 4 < m
  · have hj : joinOk bs = false := by unfold joinOk; rw [HM.out, decide_eq_false (by omega)]; rfl
    unfold JoinRes
    rw [hj]
    have h4' : (4 : Int) < m := by omega
    clear hj HLS HA
    go_enter Tryd.func47, Tryd.ntmps47
    go_wp2
    go_ret2
    exact ⟨_, rfl, fun h => by simp at h, Below.refl _ _⟩
  · have h4' : (m : Int) ≤ 4 := by omega
    obtain ⟨g, rfl⟩ := HA.out (by omega)
    by_cases h1 : m = 1
    · subst h1
      obtain ⟨b0, hb0⟩ : ∃ b0, bs = [b0] := by
        have := HM.out
        match bs, this with
        | [x], _ => exact ⟨x, rfl⟩
      subst hb0
      obtain ⟨u, hu1, hu2⟩ := HLS.out.inner 0 (by simp)
      have c0 := HLS.out.own.own.cell 0 u hu1
      have hjp : joinP [b0] = b0 := by simp [joinP]
      have hjo : joinOk [b0] = decide (b0.length ≤ 40) := by unfold joinOk; rw [hjp]; rfl
      obtain ⟨au, cu, rfl, hau⟩ := hu2.own.view
      rw [strs_len] at hu2 c0 hu1
      have hlen : b0.length ≤ 1000 := HB1.out b0 (by simp)
      have hdec : decide ((b0.length : Int) ≤ 40) = decide (b0.length ≤ 40) := by
        rw [Bool.eq_iff_iff, decide_eq_true_eq, decide_eq_true_eq]; omega
      unfold JoinRes
      rw [hjp, hjo]
      have HU := Lib.hid hu2
      have HDEC := Lib.hid hdec
      clear hau hu1 hu2 HA HNE HB1 HM HLS hjp hjo hdec
      go_enter Tryd.func47, Tryd.ntmps47
      go_wp2
      go_quiet (fail)
      go_wp2
      go_ret2
      exact ⟨_, by rw [← HDEC.out]; rfl, fun _ => HU.out.drewN _, below_drewN (Below.refl _ _) _⟩
    · have h1' : ((m : Int) == 1) = false := by rw [beq_eq_false_iff_ne]; omega
      have hgl : g < w.heap.size := HLS.out.own.own.lt g rfl
      have HF : Hid (∀ j, 40 < (accP bs j).length → joinOk bs = false) := Lib.hid (fun j hj => joinOk_false (by rw [HM.out]; exact h1) hj)
      have HT : Hid ((accP bs m).length ≤ 40 → joinOk bs = true ∧ joinP bs = accP bs m) := Lib.hid (fun h9 => by
        rw [← HM.out, accP_all] at h9 ⊢
        have e : joinP bs = bs.flatMap pal := by unfold joinP; rw [if_neg (by rw [HM.out]; exact h1)]
        refine ⟨?_, e⟩
        unfold joinOk
        rw [e, decide_eq_true h9, HM.out, decide_eq_true (show m ≤ 4 by omega)]
        rfl)
      obtain ⟨i0, hi0, hz0, hz1, hz2⟩ := info_parts infoText
      have I0 := Lib.hid (⟨hi0, hz0, hz1, hz2⟩ : _ ∧ _ ∧ _ ∧ _)
      unfold JoinRes
      generalize joinOk bs = ok at *
      clear HA hi0 hz0 hz1 hz2
      go_enter Tryd.func47, Tryd.ntmps47
      go_wp2
      go_loopg [4, 25] m (fun q lv i wr => ∃ j : Nat, j ≤ m ∧ q + j = m ∧ i = .int .i64 j ∧ New w.heap.size wr 9 lv (strs (accP bs j)) ∧ (accP bs j).length ≤ 40 ∧ Below w.heap.size w wr)
      case atStart => exact ⟨0, by omega, rfl, rfl, New.nil _ _ _, by simp [accP], Below.refl _ _⟩
      case round =>
        obtain ⟨j, hj, hq, rfl, hnew, hlen, hb⟩ := hrel
        have HN := Lib.hid hnew
        have HB := Lib.hid hb
        obtain ⟨al, cl, hu4, hal⟩ := hnew.own.view
        rw [strs_len] at hu4
        subst hu4
        have HAL := Lib.hid hal
        have HLEN := Lib.hid hlen
        clear hnew hb hal
        by_cases hlt : j < m
        · have hjx : j < bs.length := by rw [HM.out]; exact hlt
          obtain ⟨u, hu1, hu2⟩ := HLS.out.inner j hjx
          have c1 := (HB.out.cell (p := ⟨g, j, none⟩) hgl).trans (HLS.out.own.own.cell j u hu1)
          have HU := Lib.hid (hu2.own.kept HB.out).txts
          have hji : (j : Int) < m := by omega
          have hstep := accP_step bs j hjx
          have hbne := HNE.out bs[j] (List.getElem_mem hjx)
          have hbl := HB1.out bs[j] (List.getElem_mem hjx)
          have hpo := palOk_iff bs[j] hbne
          have HPO := Lib.hid hpo
          have HSTEP := Lib.hid hstep
          have hpl : 0 < (pal bs[j]).length := by
            have := List.length_pos_iff.2 hbne
            rw [pal_len]; omega
          have HPL := Lib.hid hpl
          have HMA : Hid (∀ W, Txts W u bs[j] → Calls Tryd.prog 10 #[u] W _) := Lib.hid (fun W h => iMirrorAll_any u bs[j] W h (by omega))
          have hout : palOk bs[j] = true → palOut bs[j] = pal bs[j] := fun h => by unfold palOut; rw [h]; rfl
          have HOUT := Lib.hid hout
          generalize accP bs j = acc at *
          generalize bs[j] = bj at *
          clear hu1 hu2 hstep hpo hbne hpl hout
          go_wp2_with fail
          refine (HMA.out _ HU.out).mono ?_
          rintro e w2 ⟨v2, rfl, hn2, hb2⟩
          have HB2 := Lib.hid (HB.out.trans (hb2.mono HB.out.size))
          have HN2 := Lib.hid (HN.out.kept hb2)
          cases hk : palOk bj
          · have HOK : Hid (ok = false) := Lib.hid (HF.out (j + 1) (by
              rw [HSTEP.out, List.length_append]
              have := HPO.out
              rw [hk] at this
              have := of_decide_eq_false this.symm
              omega))
            clear hn2 hb2 hk
            go_wp2
            go_ret2
            exact ⟨_, by rw [HOK.out]; rfl, fun h => (by rw [HOK.out] at h; cases h), HB2.out⟩
          · rw [HOUT.out hk] at hn2
            have HV2 := Lib.hid hn2
            obtain ⟨a2, c2', hv2, ha2⟩ := hn2.own.view
            rw [strs_len] at hv2 ha2
            subst hv2
            obtain ⟨g2, rfl⟩ := ha2 HPL.out
            have hp40 : (pal bj).length ≤ 40 := by
              have := HPO.out
              rw [hk] at this
              exact of_decide_eq_true this.symm
            obtain ⟨n2, hn2'⟩ : ∃ n2, (pal bj).length = n2 := ⟨_, rfl⟩
            obtain ⟨n1, hn1'⟩ : ∃ n1, acc.length = n1 := ⟨_, rfl⟩
            rw [hn2'] at hp40 HV2
            rw [hn1'] at hlen HN2
            have HN1E := Lib.hid hn1'
            have HN2E := Lib.hid hn2'
            rw [hn2', hn1']
            clear hn2 hb2 hk ha2 HN hn1' hn2' HAL HLEN
            by_cases hbig : 40 < n1 + n2
            · have HOK : Hid (ok = false) := Lib.hid (HF.out (j + 1) (by
                rw [HSTEP.out, List.length_append, HN1E.out, HN2E.out]; exact hbig))
              have hbi : decide ((40 : Int) < (n1 : Int) + n2) = true := by rw [decide_eq_true_eq]; omega
              clear hbig
              go_wp2
              go_ret2
              exact ⟨_, by rw [HOK.out]; rfl, fun h => (by rw [HOK.out] at h; cases h), HB2.out⟩
            · have hbi : decide ((40 : Int) < (n1 : Int) + n2) = false := by rw [decide_eq_false_iff_not]; omega
              have hcells : ∀ t y, (strs (pal bj))[t]? = some y → w2.cell? ((⟨g2, 0, none⟩ : Addr).add t) = some y := fun t y hy => by
                rw [add_at, Nat.zero_add]
                exact HV2.out.own.cell t y hy
              have HCE := Lib.hid hcells
              clear hcells
              go_wp2_with (at_builtin; refine wpList_appN rfl (.tmp 44) (.tmp 45) 24 rfl 9 i0 (.string ⟨#[]⟩) 16 Tryd.underlying24 I0.out.1 I0.out.2.1 I0.out.2.2.1 I0.out.2.2.2 rfl w.heap.size w _ (strs acc) rfl HN2.out ⟨g2, 0, none⟩ n2 _ (strs (pal bj)) rfl (by rw [strs_len, HN2E.out]) HCE.out (strs_one _) HB2.out.size HB2.out (by rw [strs_len, HN1E.out]; omega) (by omega) ?_)
              intro v4 w4 hn4 _ hb4 _ _
              have e4 : strs acc ++ strs (pal bj) = strs (accP bs (j + 1)) := by rw [HSTEP.out]; simp [strs]
              rw [e4] at hn4
              have HN4 := Lib.hid hn4
              have HB4 := Lib.hid hb4
              clear hn4 hb4 e4
              go_wp2
              go_roundg (m - (j + 1))
              case measure => omega
              case rel => exact ⟨j + 1, by omega, by omega, by go_num, HN4.out, by rw [HSTEP.out, List.length_append, HN1E.out, HN2E.out]; omega, HB4.out⟩
        · obtain rfl : j = m := by omega
          obtain ⟨hok, hjp⟩ := HT.out HLEN.out
          have HJP := Lib.hid hjp
          have HOK := Lib.hid hok
          clear hok hjp HF HT
          go_wp2
          go_ret2
          exact ⟨_, by rw [HOK.out]; rfl, fun _ => by rw [HJP.out]; exact HN.out.lower hBw, HB.out⟩
end Go.Proofs.YtdflpkkcjbdpfaaDoor
