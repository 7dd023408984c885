/- ShortNotation in the model; the law on it. -/
import Derived.Test.YtdflpkkcjbdpfaaDoorT6
import Derived.Test.YtdflpkkcjbdpfaaDoorT5
namespace Go.Proofs.YtdflpkkcjbdpfaaDoor
open Go.RowKit
set_option linter.unusedSimpArgs false

set_option maxRecDepth 100000 in
set_option maxHeartbeats 1000000 in
theorem sShortNotation_any (n : Int) (v : Value) (L : List (List Nat)) (w : World) (h : Txts w v L) (hl : L.length ≤ 2000000) (hs : ∀ l ∈ L, l.length ≤ maxLen) :
    Calls Tryd.prog 24 #[.int .i64 n, v] w (TextRes (shortT n L) (goodAll n L) w) := by
  have hG := l3List_any n v L w h hl hs
  have HT := Lib.hid h
  cases hg : goodAll n L
  · have hr : shortT n L = [] := by unfold shortT; rw [hg]; rfl
    rw [hr]
    rw [hg] at hG
    clear hg hr
    go_enter Tryd.func24, Tryd.ntmps24
    go_wp2_with fail
    refine hG.mono ?_
    rintro e w1 ⟨rfl, rfl⟩
    go_wp2
    go_ret2
    exact ⟨rfl, Below.refl _ _⟩
  · have hr : shortT n L = shortG L := by unfold shortT; rw [hg]; rfl
    have HH := Lib.hid (l3Halves_any v L w h (by have := goodAll_len hg; omega))
    have HJL : Hid (∀ w, Txts w v L → Calls Tryd.prog 44 #[v] w _) := Lib.hid (fun w h => l3Text_any v L w h (by have := goodAll_len hg; omega) (by have := goodAll_text hg; omega))
    rw [hr]
    rw [hg] at hG
    have HG := Lib.hid hg
    have htl := goodAll_text hg
    have hz0 : txt [] = (⟨#[]⟩ : ByteArray) := rfl
    clear hr hg
    cases hv : halves L with
    | none =>
      have hs : shortG L = textT true L := by unfold shortG; rw [hv]
      rw [hs]
      rw [hv] at HH
      have HJ0 : Hid (∀ u w, Txts w u [] → Calls Tryd.prog 44 #[u] w _) := Lib.hid (fun u w h => l3Text_any u [] w h (by simp) (by simp [textT]))
      have z0 : textT true [] = [] := rfl
      rw [z0, hz0] at HJ0
      generalize textT true L = tot at *
      have s5' : (txt tot).size ≤ 280 := by rw [txt_size]; exact htl
      clear hs hv z0
      go_enter Tryd.func24, Tryd.ntmps24
      go_wp2_with fail
      refine hG.mono ?_
      rintro e w1 ⟨rfl, rfl⟩
      clear hG
      go_wp2_with fail
      refine HH.out.mono ?_
      rintro e w2 ⟨va, vb, rfl, hna, hnb, _, hb2⟩
      have HB2 := Lib.hid hb2
      have HA := Lib.hid hna.own.txts
      have HB := Lib.hid hnb.own.txts
      have HTL := Lib.hid (HT.out.kept hb2)
      clear hb2 hna hnb HH
      go_wp2_with fail
      refine (HJ0.out _ _ HA.out).mono ?_
      rintro e w3 ⟨rfl, rfl⟩
      go_wp2_with fail
      refine (HJ0.out _ _ HB.out).mono ?_
      rintro e w4 ⟨rfl, rfl⟩
      go_wp2_with fail
      refine (HJL.out _ HTL.out).mono ?_
      rintro e w5 ⟨rfl, rfl⟩
      go_wp2
      go_ret2
      exact ⟨rfl, HB2.out⟩
    | some ab =>
      obtain ⟨a, b⟩ := ab
      obtain ⟨s1, s2, s3, s4⟩ := short_sizes HG.out hv
      have hs : shortG L = if (shortH a b).length < (textT true L).length then shortH a b else textT true L := by unfold shortG; rw [hv]
      have hlen : (shortH a b).length = (textT true a).length + 1 + (textT true b).length := by unfold shortH; simp; omega
      have hcat : txt (shortH a b) = txt (textT true a) ++ ⟨#[44]⟩ ++ txt (textT true b) := by
        unfold shortH
        rw [show textT true a ++ 44 :: textT true b = (textT true a ++ [44]) ++ textT true b by simp, txt_app, txt_app]
        rfl
      rw [hv] at HH
      have HJA : Hid (∀ u w, Txts w u a → Calls Tryd.prog 44 #[u] w _) := Lib.hid (fun u w h => l3Text_any u a w h s1 (by omega))
      have HJB : Hid (∀ u w, Txts w u b → Calls Tryd.prog 44 #[u] w _) := Lib.hid (fun u w h => l3Text_any u b w h s2 (by omega))
      generalize shortG L = res at *
      generalize textT true L = tot at *
      generalize shortH a b = sh at *
      generalize textT true a = ta at *
      generalize textT true b = tb at *
      have HS := Lib.hid hs
      have HCAT := Lib.hid hcat
      have z1 : ((txt ta).size : Int) = (ta.length : Int) := by rw [txt_size]
      have z2 : ((txt tb).size : Int) = (tb.length : Int) := by rw [txt_size]
      have z3 : ((txt tot).size : Int) = (tot.length : Int) := by rw [txt_size]
      have s3' : (txt ta).size ≤ 280 := by rw [txt_size]; exact s3
      have s4' : (txt tb).size ≤ 280 := by rw [txt_size]; exact s4
      have s5' : (txt tot).size ≤ 280 := by rw [txt_size]; exact htl
      have HLEN := Lib.hid hlen
      clear hs hv hcat s1 s2 hlen
      by_cases hcmp : sh.length < tot.length
      · have hc1 : ((ta.length : Int) + 1 + tb.length) < tot.length := by have := HLEN.out; omega
        have HR : Hid (res = sh) := Lib.hid (by rw [HS.out, if_pos hcmp])
        clear HS hcmp
        go_enter Tryd.func24, Tryd.ntmps24
        go_wp2_with fail
        refine hG.mono ?_
        rintro e w1 ⟨rfl, rfl⟩
        clear hG
        go_wp2_with fail
        refine HH.out.mono ?_
        rintro e w2 ⟨va, vb, rfl, hna, hnb, _, hb2⟩
        have HB2 := Lib.hid hb2
        have HA := Lib.hid hna.own.txts
        have HB := Lib.hid hnb.own.txts
        have HTL := Lib.hid (HT.out.kept hb2)
        clear hb2 hna hnb HH
        go_wp2_with fail
        refine (HJA.out _ _ HA.out).mono ?_
        rintro e w3 ⟨rfl, rfl⟩
        go_wp2_with fail
        refine (HJB.out _ _ HB.out).mono ?_
        rintro e w4 ⟨rfl, rfl⟩
        go_wp2_with fail
        refine (HJL.out _ HTL.out).mono ?_
        rintro e w5 ⟨rfl, rfl⟩
        go_wp2
        go_ret2
        exact ⟨by rw [HR.out, HCAT.out]; rfl, HB2.out⟩
      · have hc1 : ¬ ((ta.length : Int) + 1 + tb.length) < tot.length := by have := HLEN.out; omega
        have HR : Hid (res = tot) := Lib.hid (by rw [HS.out, if_neg hcmp])
        clear HS hcmp
        go_enter Tryd.func24, Tryd.ntmps24
        go_wp2_with fail
        refine hG.mono ?_
        rintro e w1 ⟨rfl, rfl⟩
        clear hG
        go_wp2_with fail
        refine HH.out.mono ?_
        rintro e w2 ⟨va, vb, rfl, hna, hnb, _, hb2⟩
        have HB2 := Lib.hid hb2
        have HA := Lib.hid hna.own.txts
        have HB := Lib.hid hnb.own.txts
        have HTL := Lib.hid (HT.out.kept hb2)
        clear hb2 hna hnb HH
        go_wp2_with fail
        refine (HJA.out _ _ HA.out).mono ?_
        rintro e w3 ⟨rfl, rfl⟩
        go_wp2_with fail
        refine (HJB.out _ _ HB.out).mono ?_
        rintro e w4 ⟨rfl, rfl⟩
        go_wp2_with fail
        refine (HJL.out _ HTL.out).mono ?_
        rintro e w5 ⟨rfl, rfl⟩
        go_wp2_with fail
        refine (HJL.out _ HTL.out).mono ?_
        rintro e w6 ⟨rfl, rfl⟩
        go_wp2
        go_ret2
        exact ⟨by rw [HR.out]; rfl, HB2.out⟩

end Go.Proofs.YtdflpkkcjbdpfaaDoor
