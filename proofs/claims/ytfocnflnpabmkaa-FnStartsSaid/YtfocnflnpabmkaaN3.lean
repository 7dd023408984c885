/- Methods in the model: courses, hunt bells. -/
import Derived.Test.YtfocnflnpabmkaaN2
namespace Go.Proofs.Ytfocnflnpabmkaa
open Go.RowKit
set_option linter.unusedSimpArgs false
set_option linter.unusedVariables false

set_option maxRecDepth 100000 in
set_option maxHeartbeats 1000000 in
theorem l4Course_any (s : ByteArray) (n : Nat) (v : Value) (L : List (List Nat)) (hg : goodAll n L = true) (k : Nat) (hk : IsOrd n (headF n (chR n L)) k) (hkl : k * L.length ≤ 800) (w : World) (h : Txts w v L) :
    Calls Try.prog 98 #[.agg #[.string s, .int .i64 n, v]] w (TextsOut (rowsL n (courseF n (chR n L) k (rdf n))) w) := by
  obtain ⟨a, cap, rfl, hcap, -⟩ := id h
  have hr := goodAll_range hg
  have h1 := goodAll_len hg
  have hrows := goodAll_rows hg
  have hrd : IsRow n (rdf n) := isRow_rdf (by omega) (by omega)
  have HT := Lib.hid h
  have HR0 := Lib.hid (RowAt.new w 26 #[.string s, .int .i64 n, .slice a L.length cap])
  have HB0 := Lib.hid ((Below.refl _ w).alloc (Nat.le_refl _) (.cells #[.string s, .int .i64 n, .slice a L.length cap] 26))
  have HRN := Lib.hid (l1Rounds_any n (by omega))
  rw [← strOf_rdf] at HRN
  have HHD := Lib.hid (fun w h => l4Head_any s n (.slice a L.length cap) L hg w h)
  have HO := Lib.hid (l1Order_any n (headF n (chR n L)) (isRow_head (by omega) (by omega) hrows) k hk)
  have HL := Lib.hid (fun g hgr w h => l4Lead_any n (.slice a L.length cap) L g hgr hg w h)
  unfold LeadOut at HL
  have hcl := chR_len n L
  have HROWS := Lib.hid hrows
  have hk840 := hk.le
  have hk' : (k : Int) ≤ 840 := by omega
  generalize strOf n (headF n (chR n L)) = th at *
  generalize hres : rowsL n (courseF n (chR n L) k (rdf n)) = res
  have HRES := Lib.hid hres
  have HRD := Lib.hid hrd
  generalize rdf n = f0 at *
  obtain ⟨t0, ht0⟩ : ∃ t0, strOf n f0 = t0 := ⟨_, rfl⟩
  have HT0 := Lib.hid ht0
  rw [ht0] at HRN
  clear hcap hr hres hrd ht0 hrows hk
  obtain ⟨cs, hcs⟩ : ∃ cs, chR n L = cs := ⟨_, rfl⟩
  rw [hcs] at HL HROWS HRES hcl
  obtain ⟨m, hm⟩ : ∃ m, L.length = m := ⟨_, rfl⟩
  rw [hm] at HT HR0 HB0 HHD HL hkl hcl h1 ⊢
  have HCL := Lib.hid hcl
  obtain ⟨i0, hi0, hz0, hz1, hz2⟩ := info_parts infoText
  have I0 := Lib.hid (⟨hi0, hz0, hz1, hz2⟩ : _ ∧ _ ∧ _ ∧ _)
  clear hi0 hz0 hz1 hz2 h hg hcs hm hcl
  have c1 := HR0.out.cell 1 rfl
  go_enter Try.func98, Try.ntmps98
  go_wp2_with (first | (go_at_call 90; refine (HRN.out _).mono ?_; rintro e w1 ⟨rfl, rfl⟩) | (refine wpList_load_row rfl 26 _ rfl _ rfl 26 _ _ _ (HR0.out) Try.underlying26 rfl (by kernel_rfl) ?_) | fail)
  refine (HHD.out _ (HT.out.kept HB0.out)).mono ?_
  rintro e w1 ⟨rfl, hb1⟩
  have HB1 := Lib.hid (HB0.out.trans (hb1.mono HB0.out.size))
  have HR1 := Lib.hid (HR0.out.kept hb1)
  clear hb1 HHD HB0 HR0 c1 HRN
  go_wp2_with (first | (go_at_call 95; refine (HO.out _).mono ?_; rintro e w2 ⟨rfl, rfl⟩) | fail)
  go_loopg [3, 4, 5, 6, 7] k (fun q ov tv i _ _ wr => ∃ (g : Nat → Nat) (A : List (List Nat)), i = .int .i64 q ∧ tv = .string (strOf n g) ∧ IsRow n g ∧ A ++ rowsL n (courseF n cs q g) = res ∧ A.length + q * m = k * m ∧ q ≤ k ∧ New w.heap.size wr 9 ov (strs A) ∧ RowAt wr w.heap.size 26 #[.string s, .int .i64 n, .slice a m cap] ∧ Below w.heap.size w wr)
  case atStart => exact ⟨f0, [], rfl, by rw [HT0.out], HRD.out, HRES.out, by simp, Nat.le_refl _, New.nil _ _ _, HR1.out, HB1.out⟩
  case round =>
    clear HRES HRD HR1 HB1 HT0 HO
    obtain ⟨g, A, rfl, rfl, hgr, hr, hA, hqk, hn, hr0, hb⟩ := hrel
    have HG := Lib.hid hgr
    have HRR := Lib.hid hr
    have HR := Lib.hid hr0
    have HB := Lib.hid hb
    obtain ⟨a9, c9, rfl, -⟩ := hn.own.view
    rw [strs_len] at hn ⊢
    have HN := Lib.hid hn
    have c2 := hr0.cell 2 rfl
    clear hgr hr hr0 hb hn
    by_cases h0 : 0 < gk
    · obtain ⟨q', rfl⟩ : ∃ q', gk = q' + 1 := ⟨gk - 1, by omega⟩
      have HR2 := Lib.hid (show (A ++ rowsL n (leadF n cs g)) ++ rowsL n (courseF n cs q' (endF n cs g)) = res from by rw [← HRR.out]; simp [courseF, rowsL])
      have hll : (rowsL n (leadF n cs g)).length = m := by rw [rowsL_len, leadF_len, HCL.out]
      have hA2 : (A ++ rowsL n (leadF n cs g)).length + q' * m = k * m := by
        rw [List.length_append, hll, ← hA, Nat.succ_mul]; omega
      have HA2 := Lib.hid hA2
      have hal : A.length + m ≤ 800 := by rw [Nat.succ_mul] at hA; omega
      have HLC := Lib.hid (fun w h => HL.out g HG.out w h)
      have HGE := Lib.hid (isRow_end HROWS.out HG.out)
      have HLL := Lib.hid hll
      generalize rowsL n (leadF n cs g) = rl at *
      generalize endF n cs g = ge at *
      have hqi : (0 : Int) < ((q' + 1 : Nat) : Int) := by omega
      generalize strOf n g = tg at *
      clear HRR hA hA2 hll
      go_wp2_with fail
      refine (HLC.out _ (HT.out.kept HB.out)).mono ?_
      rintro e w5 ⟨v5, rfl, hn5, hb5⟩
      have HB5 := Lib.hid (HB.out.trans (hb5.mono HB.out.size))
      have HN5 := Lib.hid (HN.out.kept hb5)
      have HR5 := Lib.hid (HR.out.kept hb5)
      have hov := hn5.own
      obtain ⟨a5, c5, rfl, ha5⟩ := hn5.own.view
      rw [strs_len, HLL.out] at hov ha5 ⊢
      obtain ⟨g5, rfl⟩ := ha5 (by omega)
      have HV5 := Lib.hid hov
      have HNE := Lib.hid (HN5.out.apartRow HR5.out (by decide))
      have hone : ∀ u ∈ strs rl, u.oneCell' = true := by
        intro u hu
        simp only [strs, List.mem_map] at hu
        obtain ⟨x, _, rfl⟩ := hu
        rfl
      have HONE := Lib.hid hone
      clear hb5 HN HR HB hn5 hov ha5 c2 hone HLC
      go_wp2_with (at_builtin; refine wpList_appN rfl (.tmp 25) (.tmp 26) 24 rfl 9 i0 (.string ⟨#[]⟩) 16 Try.underlying24 I0.out.1 I0.out.2.1 I0.out.2.2.1 I0.out.2.2.2 rfl w.heap.size w _ (strs A) rfl HN5.out ⟨g5, 0, none⟩ m c5 (strs rl) rfl (by rw [strs_len, HLL.out]) (fun j u hj => by rw [add_at, Nat.zero_add]; exact HV5.out.cell j u hj) HONE.out HB5.out.size HB5.out (by rw [strs_len]; omega) (by omega) ?_)
      intro v6 w6 hn6 hk6 hb6 _ _
      rw [show strs A ++ strs rl = strs (A ++ rl) by simp [strs]] at hn6
      have HN6 := Lib.hid hn6
      have HB6 := Lib.hid hb6
      have HR6 := Lib.hid (hk6.row HR5.out HNE.out)
      clear hn6 hk6 hb6 HN5 HB5 HR5 HV5 HNE
      go_wp2
      go_roundg q'
      case measure => omega
      case rel => exact ⟨ge, A ++ rl, by go_num, rfl, HGE.out, HR2.out, HA2.out, by omega, HN6.out, HR6.out, HB6.out⟩
    · obtain rfl : gk = 0 := by omega
      have hr := HRR.out
      have hr : A = res := by rw [← hr]; simp [courseF, rowsL]
      subst hr
      generalize strOf n g = tg at *
      go_wp2
      go_ret
      exact ⟨_, rfl, HN.out, HB.out⟩

/-- a method's box stands, and all that was there -/
def Boxed (w0 : World) (b : Nat) (s : ByteArray) (n : Int) (u : Value) (W : World) : Prop := W.cell? ⟨b, 0, none⟩ = some (.string s) ∧ W.cell? ⟨b, 1, none⟩ = some (.int .i64 n) ∧ W.cell? ⟨b, 2, none⟩ = some u ∧ Below w0.heap.size w0 W
theorem Boxed.more {w0 W W' : World} {b : Nat} {s : ByteArray} {n : Int} {u : Value} (h : Boxed w0 b s n u W) (hlt : b < w0.heap.size) (hb : Below W.heap.size W W') : Boxed w0 b s n u W' := by
  obtain ⟨h0, h1, h2, hW⟩ := h
  have hlt2 := Nat.lt_of_lt_of_le hlt hW.size
  exact ⟨(hb.cell (p := ⟨b, 0, none⟩) hlt2).trans h0, (hb.cell (p := ⟨b, 1, none⟩) hlt2).trans h1, (hb.cell (p := ⟨b, 2, none⟩) hlt2).trans h2, hW.trans (hb.mono hW.size)⟩
theorem RowAt.boxed {W : World} {b : Nat} {T : TypeId} {s : ByteArray} {n : Int} {u : Value} (h : RowAt W b T #[.string s, .int .i64 n, u]) : Boxed W b s n u W := ⟨h.cell 0 rfl, h.cell 1 rfl, h.cell 2 rfl, Below.refl _ _⟩

set_option maxRecDepth 100000 in
set_option maxHeartbeats 1000000 in
theorem sCourseRows_no (s : ByteArray) (hs : s.size ≤ maxLen) (n : Int) (v : Value) (L : List (List Nat)) (w : World) (h : Txts w v L) (hl : L.length ≤ 2000000) (hsm : Small L) (hg : goodM s n L = false) :
    Calls Try.prog 55 #[.agg #[.string s, .int .i64 n, v]] w (TextsAny [] false w) := by
  obtain ⟨a, cap, rfl, hcap, -⟩ := id h
  have HT := Lib.hid h
  have HR0 := Lib.hid (RowAt.new w 26 #[.string s, .int .i64 n, .slice a L.length cap])
  have HB0 := Lib.hid ((Below.refl _ w).alloc (Nat.le_refl _) (.cells #[.string s, .int .i64 n, .slice a L.length cap] 26))
  have HG := Lib.hid (fun w h => l4Good_any s hs n (.slice a L.length cap) L w h hl hsm)
  rw [hg] at HG
  clear h hcap hl hsm hg
  generalize L.length = m at *
  go_enter Try.func55, Try.ntmps55
  go_wp2
  have HX := Lib.hid HR0.out.boxed
  generalize w.alloc (.cells #[.string s, .int .i64 n, .slice a m cap] 26) = w0 at *
  have hlt : w.heap.size < w0.heap.size := HR0.out.lt
  have HGS : Hid (∀ W, Boxed w0 w.heap.size s n (.slice a m cap) W → Calls Try.prog 64 #[.agg #[.string s, .int .i64 n, .slice a m cap]] W fun e w' => e = .returned (.bool false) ∧ Boxed w0 w.heap.size s n (.slice a m cap) w') := Lib.hid (fun W hW => (HG.out W ((HT.out.kept HB0.out).kept hW.2.2.2)).mono fun e w' h => ⟨h.1, hW.more hlt h.2⟩)
  have HXD : Hid (Boxed w0 w.heap.size s n (.slice a m cap) w0.drew) := Lib.hid ⟨HX.out.1, HX.out.2.1, HX.out.2.2.1, HX.out.2.2.2.drew⟩
  have c0 := HXD.out.1
  have c1 := HXD.out.2.1
  have c2 := HXD.out.2.2.1
  clear HG HT hlt HX
  first | go_region_with (first | (go_at_call 64; refine (HGS.out _ HXD.out).mono ?_; rintro e5 w5 ⟨rfl, hS5⟩) | fail) | fail
  all_goals
    go_wp2
    go_ret2
    exact ⟨_, rfl, New.nil _ _ _, HB0.out.trans (hS5.2.2.2.mono HB0.out.size)⟩

set_option maxRecDepth 100000 in
set_option maxHeartbeats 1000000 in
theorem sCourseRows_yes (s : ByteArray) (hs : s.size ≤ maxLen) (n : Nat) (v : Value) (L : List (List Nat)) (w : World) (h : Txts w v L) (hl : L.length ≤ 2000000) (hsm : Small L) (hg : goodM s n L = true) (k : Nat) (hk : IsOrd n (headF n (chR n L)) k) (kb : Bool) (hkb : kb = decide (k * L.length ≤ 800)) :
    Calls Try.prog 55 #[.agg #[.string s, .int .i64 n, v]] w (TextsAny (if kb = true then rowsL n (courseF n (chR n L) k (rdf n)) else []) kb w) := by
  obtain ⟨a, cap, rfl, hcap, -⟩ := id h
  have hga := (goodM_parts hg).1
  have hr := goodAll_range hga
  have h1 := goodAll_len hga
  have HT := Lib.hid h
  have HR0 := Lib.hid (RowAt.new w 26 #[.string s, .int .i64 n, .slice a L.length cap])
  have HB0 := Lib.hid ((Below.refl _ w).alloc (Nat.le_refl _) (.cells #[.string s, .int .i64 n, .slice a L.length cap] 26))
  have HG := Lib.hid (fun w h => l4Good_any s hs n (.slice a L.length cap) L w h hl hsm)
  rw [hg] at HG
  have HHD := Lib.hid (fun w h => l4Head_any s n (.slice a L.length cap) L hga w h)
  have HO := Lib.hid (l1Order_any n (headF n (chR n L)) (isRow_head (by omega) (by omega) (goodAll_rows hga)) k hk)
  have hk840 := hk.le
  have HCO : Hid (kb = true → ∀ w, Txts w (.slice a L.length cap) L → Calls Try.prog 98 #[.agg #[.string s, .int .i64 n, .slice a L.length cap]] w (TextsOut (rowsL n (courseF n (chR n L) k (rdf n))) w)) := Lib.hid (fun hb w h => l4Course_any s n (.slice a L.length cap) L hga k hk (by rw [hkb] at hb; simpa using hb) w h)
  generalize strOf n (headF n (chR n L)) = th at *
  generalize rowsL n (courseF n (chR n L) k (rdf n)) = res at *
  obtain ⟨p, hp⟩ : ∃ p, k * L.length = p := ⟨_, rfl⟩
  have hpi : (L.length : Int) * (k : Int) = p := by rw [← hp, Nat.mul_comm]; simp
  have hp2 : p ≤ 840 * 40 := by rw [← hp]; exact Nat.mul_le_mul hk840 h1.2
  rw [hp] at hkb
  have hm40 : (L.length : Int) ≤ 40 := by omega
  have hk' : (k : Int) ≤ 840 := by omega
  have HKB := Lib.hid hkb
  clear h hcap hl hsm hg hga hr hk hp h1 hk840 hkb
  generalize L.length = m at *
  obtain ⟨out, hout⟩ : ∃ out, (if kb = true then res else []) = out := ⟨_, rfl⟩
  have HOUT := Lib.hid hout
  rw [hout]
  clear hout
  go_enter Try.func55, Try.ntmps55
  go_wp2
  have HX := Lib.hid HR0.out.boxed
  generalize w.alloc (.cells #[.string s, .int .i64 n, .slice a m cap] 26) = w0 at *
  have hlt : w.heap.size < w0.heap.size := HR0.out.lt
  have HGS : Hid (∀ W, Boxed w0 w.heap.size s n (.slice a m cap) W → Calls Try.prog 64 #[.agg #[.string s, .int .i64 n, .slice a m cap]] W fun e w' => e = .returned (.bool true) ∧ Boxed w0 w.heap.size s n (.slice a m cap) w') := Lib.hid (fun W hW => (HG.out W ((HT.out.kept HB0.out).kept hW.2.2.2)).mono fun e w' h => ⟨h.1, hW.more hlt h.2⟩)
  have HHS : Hid (∀ W, Boxed w0 w.heap.size s n (.slice a m cap) W → Calls Try.prog 92 #[.agg #[.string s, .int .i64 n, .slice a m cap]] W fun e w' => e = .returned (.string th) ∧ Boxed w0 w.heap.size s n (.slice a m cap) w') := Lib.hid (fun W hW => (HHD.out W ((HT.out.kept HB0.out).kept hW.2.2.2)).mono fun e w' h => ⟨h.1, hW.more hlt h.2⟩)
  have HTX : Hid (∀ W, Boxed w0 w.heap.size s n (.slice a m cap) W → Txts W (.slice a m cap) L) := Lib.hid (fun W hW => (HT.out.kept HB0.out).kept hW.2.2.2)
  have HXD : Hid (Boxed w0 w.heap.size s n (.slice a m cap) w0.drew) := Lib.hid ⟨HX.out.1, HX.out.2.1, HX.out.2.2.1, HX.out.2.2.2.drew⟩
  have c0 := HXD.out.1
  have c1 := HXD.out.2.1
  have c2 := HXD.out.2.2.1
  clear HG HHD HT hlt HR0 HX
  unfold Boxed at HXD HGS HHS HTX
  go_region_held3 (fun w' => w'.cell? ⟨w.heap.size, 0, none⟩ = some (.string s) ∧ w'.cell? ⟨w.heap.size, 1, none⟩ = some (.int .i64 n) ∧ w'.cell? ⟨w.heap.size, 2, none⟩ = some (.slice a m cap) ∧ Below w0.heap.size w0 w') (first | assumption | exact HXD.out) (first | (go_at_call 64; refine (HGS.out _ (by first | assumption | exact HXD.out)).mono ?_; rintro e5 w5 ⟨rfl, hS5⟩) | (go_at_call 92; refine (HHS.out _ (by first | assumption | exact HXD.out)).mono ?_; rintro e6 w6 ⟨rfl, hS6⟩) | (go_at_call 95; refine (HO.out _).mono ?_; rintro e7 w7 ⟨rfl, rfl⟩) | fail)
  have hwr : IntKind.i64.wrap (p : Int) = p := IntWalk.i64_in _ ⟨by omega, by omega⟩
  cases kb
  · have hbig : (800 : Int) < p := by have := HKB.out.symm; simp at this; omega
    obtain rfl : [] = out := HOUT.out
    clear HKB HCO
    go_wp2
    go_ret2
    exact ⟨_, rfl, New.nil _ _ _, HB0.out.trans (hS6.2.2.2.mono HB0.out.size)⟩
  · have hbig : ¬ (800 : Int) < p := by have := HKB.out.symm; simp at this; omega
    obtain rfl : res = out := HOUT.out
    have HC2 := Lib.hid (HCO.out rfl)
    have HS6 := Lib.hid hS6
    have e0 := hS6.1
    have e1 := hS6.2.1
    have e2 := hS6.2.2.1
    clear HKB HCO hS6 hS5
    go_wp2_with fail
    refine (HC2.out _ (HTX.out _ HS6.out)).mono ?_
    rintro e w3 ⟨v3, rfl, hn3, hb3⟩
    have HB3 := Lib.hid ((HB0.out.trans (HS6.out.2.2.2.mono HB0.out.size)).trans (hb3.mono (HB0.out.trans (HS6.out.2.2.2.mono HB0.out.size)).size))
    have HN3 := Lib.hid (hn3.lower (HB0.out.trans (HS6.out.2.2.2.mono HB0.out.size)).size)
    clear hn3 hb3
    go_wp2
    go_ret2
    exact ⟨_, rfl, HN3.out, HB3.out⟩
end Go.Proofs.Ytfocnflnpabmkaa
