/- ShortNotation in the model; the law on it. -/
import Derived.Test.YtpnagaokmfaaiaaT6
import Derived.Test.YtpnagaokmfaaiaaT5
namespace Go.Proofs.Ytpnagaokmfaaiaa
open Go.RowKit
set_option linter.unusedSimpArgs false

set_option maxRecDepth 100000 in
set_option maxHeartbeats 1000000 in
theorem sShortNotation_any (n : Int) (v : Value) (L : List (List Nat)) (w : World) (h : Txts w v L) (hl : L.length ≤ 2000000) (hs : ∀ l ∈ L, l.length ≤ maxLen) :
    Calls Try.prog 12 #[.int .i64 n, v] w (TextRes (shortT n L) (goodAll n L) w) := by
  have hG := l3List_any n v L w h hl hs
  have HT := Lib.hid h
  cases hg : goodAll n L
  · have hr : shortT n L = [] := by unfold shortT; rw [hg]; rfl
    rw [hr]
    rw [hg] at hG
    clear hg hr
    go_enter Try.func12, Try.ntmps12
    go_wp2_with fail
    refine hG.mono ?_
    rintro e w1 ⟨rfl, rfl⟩
    go_wp2
    go_ret2
    exact ⟨rfl, Below.refl _ _⟩
  · have hr : shortT n L = shortG L := by unfold shortT; rw [hg]; rfl
    have HH := Lib.hid (l3Halves_any v L w h (by have := goodAll_len hg; omega))
    have HJL : Hid (∀ w, Txts w v L → Calls Try.prog 21 #[v] w _) := Lib.hid (fun w h => l3Text_any v L w h (by have := goodAll_len hg; omega) (by have := goodAll_text hg; omega))
    rw [hr]
    rw [hg] at hG
    have HG := Lib.hid hg
    have htl := goodAll_text hg
    have hz0 : txt [] = (⟨#[]⟩ : ByteArray) := rfl
    clear hr hg
    cases hv : halves L with
    | none =>
      have hs : shortG L = textT true L := by unfold shortG; rw [hv]
      rw [hs]
      rw [hv] at HH
      have HJ0 : Hid (∀ u w, Txts w u [] → Calls Try.prog 21 #[u] w _) := Lib.hid (fun u w h => l3Text_any u [] w h (by simp) (by simp [textT]))
      have z0 : textT true [] = [] := rfl
      rw [z0, hz0] at HJ0
      generalize textT true L = tot at *
      have s5' : (txt tot).size ≤ 280 := by rw [txt_size]; exact htl
      clear hs hv z0
      go_enter Try.func12, Try.ntmps12
      go_wp2_with fail
      refine hG.mono ?_
      rintro e w1 ⟨rfl, rfl⟩
      clear hG
      go_wp2_with fail
      refine HH.out.mono ?_
      rintro e w2 ⟨va, vb, rfl, hna, hnb, _, hb2⟩
      have HB2 := Lib.hid hb2
      have HA := Lib.hid hna.own.txts
      have HB := Lib.hid hnb.own.txts
      have HTL := Lib.hid (HT.out.kept hb2)
      clear hb2 hna hnb HH
      go_wp2_with fail
      refine (HJ0.out _ _ HA.out).mono ?_
      rintro e w3 ⟨rfl, rfl⟩
      go_wp2_with fail
      refine (HJ0.out _ _ HB.out).mono ?_
      rintro e w4 ⟨rfl, rfl⟩
      go_wp2_with fail
      refine (HJL.out _ HTL.out).mono ?_
      rintro e w5 ⟨rfl, rfl⟩
      go_wp2
      go_ret2
      exact ⟨rfl, HB2.out⟩
    | some ab =>
      obtain ⟨a, b⟩ := ab
      obtain ⟨s1, s2, s3, s4⟩ := short_sizes HG.out hv
      have hs : shortG L = if (shortH a b).length < (textT true L).length then shortH a b else textT true L := by unfold shortG; rw [hv]
      have hlen : (shortH a b).length = (textT true a).length + 1 + (textT true b).length := by unfold shortH; simp; omega
      have hcat : txt (shortH a b) = txt (textT true a) ++ ⟨#[44]⟩ ++ txt (textT true b) := by
        unfold shortH
        rw [show textT true a ++ 44 :: textT true b = (textT true a ++ [44]) ++ textT true b by simp, txt_app, txt_app]
        rfl
      rw [hv] at HH
      have HJA : Hid (∀ u w, Txts w u a → Calls Try.prog 21 #[u] w _) := Lib.hid (fun u w h => l3Text_any u a w h s1 (by omega))
      have HJB : Hid (∀ u w, Txts w u b → Calls Try.prog 21 #[u] w _) := Lib.hid (fun u w h => l3Text_any u b w h s2 (by omega))
      generalize shortG L = res at *
      generalize textT true L = tot at *
      generalize shortH a b = sh at *
      generalize textT true a = ta at *
      generalize textT true b = tb at *
      have HS := Lib.hid hs
      have HCAT := Lib.hid hcat
      have z1 : ((txt ta).size : Int) = (ta.length : Int) := by rw [txt_size]
      have z2 : ((txt tb).size : Int) = (tb.length : Int) := by rw [txt_size]
      have z3 : ((txt tot).size : Int) = (tot.length : Int) := by rw [txt_size]
      have s3' : (txt ta).size ≤ 280 := by rw [txt_size]; exact s3
      have s4' : (txt tb).size ≤ 280 := by rw [txt_size]; exact s4
      have s5' : (txt tot).size ≤ 280 := by rw [txt_size]; exact htl
      have HLEN := Lib.hid hlen
      clear hs hv hcat s1 s2 hlen
      by_cases hcmp : sh.length < tot.length
      · have hc1 : ((ta.length : Int) + 1 + tb.length) < tot.length := by have := HLEN.out; omega
        have HR : Hid (res = sh) := Lib.hid (by rw [HS.out, if_pos hcmp])
        clear HS hcmp
        go_enter Try.func12, Try.ntmps12
        go_wp2_with fail
        refine hG.mono ?_
        rintro e w1 ⟨rfl, rfl⟩
        clear hG
        go_wp2_with fail
        refine HH.out.mono ?_
        rintro e w2 ⟨va, vb, rfl, hna, hnb, _, hb2⟩
        have HB2 := Lib.hid hb2
        have HA := Lib.hid hna.own.txts
        have HB := Lib.hid hnb.own.txts
        have HTL := Lib.hid (HT.out.kept hb2)
        clear hb2 hna hnb HH
        go_wp2_with fail
        refine (HJA.out _ _ HA.out).mono ?_
        rintro e w3 ⟨rfl, rfl⟩
        go_wp2_with fail
        refine (HJB.out _ _ HB.out).mono ?_
        rintro e w4 ⟨rfl, rfl⟩
        go_wp2_with fail
        refine (HJL.out _ HTL.out).mono ?_
        rintro e w5 ⟨rfl, rfl⟩
        go_wp2
        go_ret2
        exact ⟨by rw [HR.out, HCAT.out]; rfl, HB2.out⟩
      · have hc1 : ¬ ((ta.length : Int) + 1 + tb.length) < tot.length := by have := HLEN.out; omega
        have HR : Hid (res = tot) := Lib.hid (by rw [HS.out, if_neg hcmp])
        clear HS hcmp
        go_enter Try.func12, Try.ntmps12
        go_wp2_with fail
        refine hG.mono ?_
        rintro e w1 ⟨rfl, rfl⟩
        clear hG
        go_wp2_with fail
        refine HH.out.mono ?_
        rintro e w2 ⟨va, vb, rfl, hna, hnb, _, hb2⟩
        have HB2 := Lib.hid hb2
        have HA := Lib.hid hna.own.txts
        have HB := Lib.hid hnb.own.txts
        have HTL := Lib.hid (HT.out.kept hb2)
        clear hb2 hna hnb HH
        go_wp2_with fail
        refine (HJA.out _ _ HA.out).mono ?_
        rintro e w3 ⟨rfl, rfl⟩
        go_wp2_with fail
        refine (HJB.out _ _ HB.out).mono ?_
        rintro e w4 ⟨rfl, rfl⟩
        go_wp2_with fail
        refine (HJL.out _ HTL.out).mono ?_
        rintro e w5 ⟨rfl, rfl⟩
        go_wp2_with fail
        refine (HJL.out _ HTL.out).mono ?_
        rintro e w6 ⟨rfl, rfl⟩
        go_wp2
        go_ret2
        exact ⟨by rw [HR.out]; rfl, HB2.out⟩

set_option maxRecDepth 100000 in
set_option maxHeartbeats 1000000 in
theorem lawShortNotation (n : Int) (v : Value) (ss : List ByteArray) (W : World) (hA : Arg W v ss) (hy : ss.length ≤ maxLen ∧ ∀ s ∈ ss, s.size ≤ maxLen) :
    Calls Try.prog 4 #[.int .i64 n, v] W fun e w' => e = .returned (.bool true) ∧ Below W.heap.size W w' := by
  have hz := szStringS_any v ss W hA hy.1 hy.2 1048576 (by omega) (by omega)
  have hlen := szAll_len (ss := ss) (left := 1048576)
  generalize szAll ss 1048576 = z at *
  by_cases hneg : z < 0
  · clear hlen
    go_enter Try.func4, Try.ntmps4
    go_wp2_with fail
    refine hz.mono ?_
    rintro e w0 ⟨rfl, rfl⟩
    go_wp2
    go_ret
    exact ⟨rfl, Below.refl _ _⟩
  · have hn := hlen (by omega)
    have hss : ss.length ≤ 1048576 := by omega
    have HS : Hid (∀ w, Arg w v ss → Calls Try.prog 9 #[v] w _) := Lib.hid (fun w h => toStringS_any v ss w h (by omega))
    have hll := letss_len ss
    have hsz := letss_size hy.2
    generalize letss ss = L at *
    have hL : L.length ≤ 1048576 := by omega
    have HM : Hid (∀ u w, Txts w u L → Calls Try.prog 13 #[.int .i64 n, u] w _) := Lib.hid (fun u w h => iShortNotation_any n u L w h (by omega))
    have HM2 : Hid (∀ u w, Txts w u L → Calls Try.prog 12 #[.int .i64 n, u] w _) := Lib.hid (fun u w h => sShortNotation_any n u L w h (by omega) hsz)
    clear hlen hy hn hss hll hsz
    generalize shortT n L = r at *
    have HA := Lib.hid hA
    have HN := Lib.hid hL
    clear hA hL
    cases hb : goodAll n L
    all_goals
      rw [hb] at HM HM2
      clear hb
      go_enter Try.func4, Try.ntmps4
      go_wp2_with fail
      refine hz.mono ?_
      rintro e w0 ⟨rfl, rfl⟩
      clear hz
      go_wp2_with fail
      refine (HS.out _ HA.out).mono ?_
      rintro e w1 ⟨v1, rfl, hn1, hb1⟩
      have B1 := Lib.hid hb1
      have T1 := Lib.hid hn1.own.txts
      clear hn1 hb1
      go_wp2_with fail
      refine (HM2.out _ _ T1.out).mono ?_
      rintro e w2 ⟨rfl, hb2⟩
      have B2 := Lib.hid (B1.out.trans (hb2.mono B1.out.size))
      clear hb2 B1 T1
      go_wp2_with fail
      refine (HS.out _ (HA.out.kept B2.out)).mono ?_
      rintro e w3 ⟨v3, rfl, hn3, hb3⟩
      have B3 := Lib.hid (B2.out.trans (hb3.mono B2.out.size))
      have O3 := Lib.hid hn3.own
      clear hn3 hb3 B2
      go_wp2_with fail
      refine (HM.out _ _ O3.out.txts).mono ?_
      rintro e w4 ⟨rfl, hb4⟩
      have B4 := Lib.hid (B3.out.trans (hb4.mono B3.out.size))
      have O4 := Lib.hid (O3.out.kept hb4)
      clear hb4 B3 O3
      go_wp2_with fail
      refine (HS.out _ (HA.out.kept B4.out)).mono ?_
      rintro e w5 ⟨v5, rfl, hn5, hb5⟩
      have B5 := Lib.hid (B4.out.trans (hb5.mono B4.out.size))
      have O35 := Lib.hid (O4.out.kept hb5)
      have O5 := Lib.hid hn5.own
      clear hn5 hb5 B4 O4
      go_wp2_with fail
      refine (eqStringS_same v3 v5 L _ O35.out O5.out (by have := HN.out; omega)).mono ?_
      rintro e w6 ⟨rfl, d6, hd6⟩
      have B6 : Hid (Below W.heap.size W w6) := by rw [hd6]; exact below_drewN B5.out _
      clear hd6
      go_wp2
      go_ret
      exact ⟨rfl, B6.out⟩
end Go.Proofs.Ytpnagaokmfaaiaa
