/- The reader of place notation: a change is read. -/
import Derived.Test.YtpnagaokmfaaiaaDoorU2
namespace Go.Proofs.YtpnagaokmfaaiaaDoor
open Go.RowKit
set_option linter.unusedSimpArgs false

theorem Rd.set {W : World} {b : Nat} {n : Int} {s : ByteArray} {p : Nat} (h : Rd W b n s p) (q : Nat) : Rd (W.setCell ⟨b, 2, none⟩ (.int .i64 q)) b n s q := RowAt.set h 2 _
theorem Only.setInt {b : Nat} {w W : World} (h : Only b w W) (v : Value) : Only b w (W.setCell ⟨b, 2, none⟩ v) := h.trans (Only.set W 2 v)

theorem Rd.next {W : World} {b : Nat} {n : Int} {s : ByteArray} {p : Nat} (h : Rd W b n s p) : Rd (W.setCell ⟨b, 2, none⟩ (.int .i64 ((p : Int) + 1))) b n s (p + 1) := by
  rw [show ((p : Int) + 1) = ((p + 1 : Nat) : Int) by omega]
  exact h.set (p + 1)
theorem wordP_part {n : Nat} {s : ByteArray} {p q : Nat} (hq : p + spanW ((lets s).drop p) = q) (hne : q ≠ p) : wordP n (lets s) p = tidyL n (lets (s.extract p q)) := by
  unfold wordP
  rw [if_neg (by omega), lets_part, show q - p = spanW ((lets s).drop p) by omega]
theorem wordP_nil {n : Nat} {s : ByteArray} {p : Nat} (hq : p + spanW ((lets s).drop p) = p) : wordP n (lets s) p = [] := by
  unfold wordP
  rw [if_pos (by omega)]
set_option maxRecDepth 100000 in
set_option maxHeartbeats 1000000 in
theorem change_in (n : Nat) (h3 : 3 ≤ n) (h8 : n ≤ 8) (b : Nat) (s : ByteArray) (p : Nat) (w : World) (hs : s.size ≤ 1000) (hp : p ≤ s.size) (h : Rd w b n s p) :
    Calls Tryd.prog 84 #[.pointer (some ⟨b, 0, none⟩)] w (ChRes b n s p w) := by
  have hSX : ∀ W q, q ≤ s.size → Rd W b n s q → Calls Tryd.prog 78 #[.pointer (some ⟨b, 0, none⟩), .string (txt lx)] W _ := fun W q hq hr => sees_any lx (by simp [lx]) b n s q W hq hr
  have hSD : ∀ W q, q ≤ s.size → Rd W b n s q → Calls Tryd.prog 78 #[.pointer (some ⟨b, 0, none⟩), .string (txt ld)] W _ := fun W q hq hr => sees_any ld (by simp [ld]) b n s q W hq hr
  have HSX := Lib.hid hSX
  have HSD := Lib.hid hSD
  have HR := Lib.hid h
  have c2 := h.cell 2 rfl
  have f2 := h.free 2
  have hsi : (s.size : Int) ≤ 1000 := by omega
  have hpi : (p : Int) ≤ s.size := by omega
  clear hSX hSD h
  obtain ⟨bx, hbx⟩ : ∃ bx, seesB s p lx = bx := ⟨_, rfl⟩
  have HBX := Lib.hid hbx
  clear hbx
  cases bx
  · go_enter Tryd.func84, Tryd.ntmps84
    go_wp2_with fail
    refine (HSX.out _ p hp HR.out).mono ?_
    rintro e w1 ⟨rfl, k1, hk1⟩
    have HR1 : Hid (Rd w1 b n s p ∧ Only b w w1) := Lib.hid ⟨by rw [hk1]; exact RowAt.drewN HR.out _, by rw [hk1]; exact (Only.refl _ _).drewN _⟩
    rw [HBX.out]
    have hx := seesX_no HBX.out
    clear hk1 c2 f2 HR
    go_wp2_with fail
    go_loopg [] (spanD ((lets s).drop p)) (fun q0 wr => ∃ q : Nat, q0 = spanD ((lets s).drop q) ∧ p ≤ q ∧ q ≤ s.size ∧ q + spanD ((lets s).drop q) = p + spanD ((lets s).drop p) ∧ Rd wr b n s q ∧ Only b w wr)
    case atStart => exact ⟨p, rfl, Nat.le_refl _, hp, rfl, HR1.out.1, HR1.out.2⟩
    case round =>
      obtain ⟨q, hqm, hpq9, hqs9, hspan, hrd, hon⟩ := hrel
      have HRX := Lib.hid (And.intro hrd hon)
      have HSP := Lib.hid hspan
      have HM := Lib.hid hqm
      have c2 := hrd.cell 2 rfl
      have f2 := hrd.free 2
      have hqi : (q : Int) ≤ s.size := by omega
      clear hspan hrd hon hqm HR1
      obtain ⟨bd, hbd⟩ : ∃ bd, seesB s q ld = bd := ⟨_, rfl⟩
      have HBD := Lib.hid hbd
      clear hbd
      go_wp2_with fail
      refine (HSD.out _ q hqs9 HRX.out.1).mono ?_
      rintro e w4 ⟨rfl, k4, hk4⟩
      have HR4 : Hid (Rd w4 b n s q ∧ Only b w w4) := Lib.hid ⟨by rw [hk4]; exact RowAt.drewN HRX.out.1 _, by rw [hk4]; exact HRX.out.2.drewN _⟩
      rw [HBD.out]
      clear hk4 c2 f2 HRX
      have c2 := HR4.out.1.cell 2 rfl
      have f2 := HR4.out.1.free 2
      cases bd
      · have HQ : Hid (p + spanW ((lets s).drop p) = q) := Lib.hid (by
          have h1 := seesD_no HBD.out
          have h2 := HSP.out
          rw [hx]
          omega)
        have HPQ : Hid (p ≤ q ∧ q ≤ s.size) := Lib.hid ⟨hpq9, hqs9⟩
        have HRX := HR4
        clear hx HSP HM HSX HSD c2 f2 hpq9 hqs9
        go_wp2_with fail
        generalize w4 = w2 at *
        have HTD : Hid (∀ W, Rd W b n s q ∧ Only b w W → Calls Tryd.prog 26 #[.int .i64 n, .string (s.extract p q)] W fun e w' => e = .returned (.tuple #[.string (txt (tidyL n (lets (s.extract p q)))), .bool (decide (tidyL n (lets (s.extract p q)) ≠ []))]) ∧ Rd w' b n s q ∧ Only b w w') :=
          Lib.hid (fun W hW => (iTidy_in n h3 h8 (s.extract p q) (by rw [ByteArray.size_extract]; omega) W).mono fun e w' ⟨h1, h2⟩ => ⟨h1, hW.1.only h2, hW.2.trans (Only.of_below h2)⟩)
        have HWN : Hid (q ≠ p → wordP n (lets s) p = tidyL n (lets (s.extract p q))) := Lib.hid (wordP_part HQ.out)
        have HW0 : Hid (q = p → wordP n (lets s) p = []) := Lib.hid (fun e => wordP_nil (by rw [HQ.out, e]))
        generalize tidyL n (lets (s.extract p q)) = r at *
        obtain ⟨ok, hok⟩ : ∃ ok, decide (r ≠ []) = ok := ⟨_, rfl⟩
        rw [hok] at HTD
        have HOK := Lib.hid hok
        clear hok
        have hpq : (p : Int) ≤ q := by have := HPQ.out; omega
        have hqs : (q : Int) ≤ s.size := by have := HPQ.out; omega
        have h0p : (0 : Int) ≤ p := by omega
        have HRX2 : Hid (Rd w2.drew b n s q ∧ Only b w w2.drew) := Lib.hid ⟨HRX.out.1, HRX.out.2.trans ⟨rfl, rfl, rfl, Nat.le_refl _, fun _ _ _ => rfl⟩⟩
        have c0 := HRX2.out.1.cell 0 rfl
        have c1 := HRX2.out.1.cell 1 rfl
        have c2 := HRX2.out.1.cell 2 rfl
        go_wp2
        go_region_held3 (fun w' => w'.cell? ⟨b, 0, none⟩ = some (.int .i64 n) ∧ w'.cell? ⟨b, 1, none⟩ = some (.string s) ∧ w'.cell? ⟨b, 2, none⟩ = some (.int .i64 q) ∧ Rd w' b n s q ∧ Only b w w') (first | exact ⟨c0, c1, c2, HRX2.out.1, HRX2.out.2⟩ | exact ⟨hq5.cell 0 rfl, hq5.cell 1 rfl, hq5.cell 2 rfl, hq5, hq6⟩ | assumption) (first | (go_at_call 26; refine (HTD.out _ HRX2.out).mono ?_; rintro e5 w5 ⟨rfl, hq5, hq6⟩) | fail)
        have HRY := Lib.hid hq5
        have HOY := Lib.hid hq6
        have d2 := hq5.cell 2 rfl
        clear hq5 hq6 c0 c1 c2
        by_cases hqp : q = p
        · have HN := Lib.hid (HW0.out hqp)
          have heq : ((q : Int) == (p : Int)) = true := by rw [beq_iff_eq]; omega
          clear hqp
          go_wp2
          exact ⟨rfl, ChRes.no HN.out HOY.out rfl⟩
        · have HWP := Lib.hid (HWN.out hqp)
          have heq : ((q : Int) == (p : Int)) = false := by rw [beq_eq_false_iff_ne]; omega
          clear hqp
          cases ok
          · have HN := Lib.hid (HWP.out.trans (show r = [] by have := HOK.out; simpa using this))
            go_wp2
            exact ⟨rfl, ChRes.no HN.out HOY.out rfl⟩
          · have HRN := Lib.hid (show r ≠ [] by have := HOK.out; simpa using this)
            go_wp2
            go_ret
            exact ChRes.yes HWP.out HRN.out HQ.out HOY.out rfl HRY.out
      · have hd := seesD_yes HBD.out
        have HNX : Hid (Rd (w4.setCell ⟨b, 2, none⟩ (.int .i64 ((q : Int) + 1))) b n s (q + 1) ∧ Only b w (w4.setCell ⟨b, 2, none⟩ (.int .i64 ((q : Int) + 1)))) := Lib.hid ⟨HR4.out.1.next, HR4.out.2.setInt _⟩
        have HD := Lib.hid hd
        clear hd
        go_wp2
        go_roundg (spanD ((lets s).drop (q + 1)))
        case measure => have h1 := HD.out; have h2 := HM.out; omega
        case rel => exact ⟨q + 1, rfl, by omega, by have := HD.out; omega, by have h1 := HD.out; have h2 := HSP.out; omega, HNX.out.1, HNX.out.2⟩
  · go_enter Tryd.func84, Tryd.ntmps84
    go_wp2_with fail
    refine (HSX.out _ p hp HR.out).mono ?_
    rintro e w1 ⟨rfl, k1, hk1⟩
    have HR1 : Hid (Rd w1 b n s p ∧ Only b w w1) := Lib.hid ⟨by rw [hk1]; exact RowAt.drewN HR.out _, by rw [hk1]; exact (Only.refl _ _).drewN _⟩
    have c2 := HR1.out.1.cell 2 rfl
    have f2 := HR1.out.1.free 2
    rw [HBX.out]
    have HRX : Hid (Rd (w1.setCell ⟨b, 2, none⟩ (.int .i64 ((p : Int) + 1))) b n s (p + 1) ∧ Only b w (w1.setCell ⟨b, 2, none⟩ (.int .i64 ((p : Int) + 1)))) := Lib.hid ⟨HR1.out.1.next, HR1.out.2.setInt _⟩
    have hx := seesX_yes HBX.out
    obtain ⟨q, hq⟩ : ∃ q, p + 1 = q := ⟨_, rfl⟩
    have HQ : Hid (p + spanW ((lets s).drop p) = q) := Lib.hid (by rw [hx.2]; exact hq)
    have HPQ : Hid (p ≤ q ∧ q ≤ s.size) := Lib.hid (by omega)
    rw [hq] at HRX
    clear hk1 hx hq HR HSX HSD
    go_wp2_with fail
    generalize w1.setCell ⟨b, 2, none⟩ (.int .i64 ((p : Int) + 1)) = w2 at *
    clear c2 f2 HR1
    have HTD : Hid (∀ W, Rd W b n s q ∧ Only b w W → Calls Tryd.prog 26 #[.int .i64 n, .string (s.extract p q)] W fun e w' => e = .returned (.tuple #[.string (txt (tidyL n (lets (s.extract p q)))), .bool (decide (tidyL n (lets (s.extract p q)) ≠ []))]) ∧ Rd w' b n s q ∧ Only b w w') :=
      Lib.hid (fun W hW => (iTidy_in n h3 h8 (s.extract p q) (by rw [ByteArray.size_extract]; omega) W).mono fun e w' ⟨h1, h2⟩ => ⟨h1, hW.1.only h2, hW.2.trans (Only.of_below h2)⟩)
    have HWN : Hid (q ≠ p → wordP n (lets s) p = tidyL n (lets (s.extract p q))) := Lib.hid (wordP_part HQ.out)
    have HW0 : Hid (q = p → wordP n (lets s) p = []) := Lib.hid (fun e => wordP_nil (by rw [HQ.out, e]))
    generalize tidyL n (lets (s.extract p q)) = r at *
    obtain ⟨ok, hok⟩ : ∃ ok, decide (r ≠ []) = ok := ⟨_, rfl⟩
    rw [hok] at HTD
    have HOK := Lib.hid hok
    clear hok
    have hpq : (p : Int) ≤ q := by have := HPQ.out; omega
    have hqs : (q : Int) ≤ s.size := by have := HPQ.out; omega
    have h0p : (0 : Int) ≤ p := by omega
    have HRX2 : Hid (Rd w2.drew b n s q ∧ Only b w w2.drew) := Lib.hid ⟨HRX.out.1, HRX.out.2.trans ⟨rfl, rfl, rfl, Nat.le_refl _, fun _ _ _ => rfl⟩⟩
    have c0 := HRX2.out.1.cell 0 rfl
    have c1 := HRX2.out.1.cell 1 rfl
    have c2 := HRX2.out.1.cell 2 rfl
    go_wp2
    go_region_held3 (fun w' => w'.cell? ⟨b, 0, none⟩ = some (.int .i64 n) ∧ w'.cell? ⟨b, 1, none⟩ = some (.string s) ∧ w'.cell? ⟨b, 2, none⟩ = some (.int .i64 q) ∧ Rd w' b n s q ∧ Only b w w') (first | exact ⟨c0, c1, c2, HRX2.out.1, HRX2.out.2⟩ | exact ⟨hq5.cell 0 rfl, hq5.cell 1 rfl, hq5.cell 2 rfl, hq5, hq6⟩ | assumption) (first | (go_at_call 26; refine (HTD.out _ HRX2.out).mono ?_; rintro e5 w5 ⟨rfl, hq5, hq6⟩) | fail)
    have HRY := Lib.hid hq5
    have HOY := Lib.hid hq6
    have d2 := hq5.cell 2 rfl
    clear hq5 hq6 c0 c1 c2
    by_cases hqp : q = p
    · have HN := Lib.hid (HW0.out hqp)
      have heq : ((q : Int) == (p : Int)) = true := by rw [beq_iff_eq]; omega
      clear hqp
      go_wp2
      exact ⟨rfl, ChRes.no HN.out HOY.out rfl⟩
    · have HWP := Lib.hid (HWN.out hqp)
      have heq : ((q : Int) == (p : Int)) = false := by rw [beq_eq_false_iff_ne]; omega
      clear hqp
      cases ok
      · have HN := Lib.hid (HWP.out.trans (show r = [] by have := HOK.out; simpa using this))
        go_wp2
        exact ⟨rfl, ChRes.no HN.out HOY.out rfl⟩
      · have HRN := Lib.hid (show r ≠ [] by have := HOK.out; simpa using this)
        go_wp2
        go_ret
        exact ChRes.yes HWP.out HRN.out HQ.out HOY.out rfl HRY.out
end Go.Proofs.YtpnagaokmfaaiaaDoor
