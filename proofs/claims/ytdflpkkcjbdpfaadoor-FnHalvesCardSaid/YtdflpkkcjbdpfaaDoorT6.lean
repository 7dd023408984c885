/- ShortNotation in the program and in the model. -/
import Derived.Test.YtdflpkkcjbdpfaaDoorH5
namespace Go.Proofs.YtdflpkkcjbdpfaaDoor
open Go.RowKit
set_option linter.unusedSimpArgs false

theorem halvesF_sub (L : List (List Nat)) : ∀ (k : Nat) (a b : List (List Nat)), halvesF L k = some (a, b) → (∀ l ∈ a, l ∈ L) ∧ (∀ l ∈ b, l ∈ L) ∧ a.length ≤ L.length ∧ b.length ≤ L.length
  | 0, a, b, h => by simp [halvesF] at h
  | k + 1, a, b, h => by
    unfold halvesF at h
    split at h
    · simp only [Option.some.injEq, Prod.mk.injEq] at h
      obtain ⟨rfl, rfl⟩ := h
      refine ⟨fun l hl => List.mem_of_mem_take (List.mem_of_mem_take hl), fun l hl => List.mem_of_mem_drop (List.mem_of_mem_take hl), ?_, ?_⟩
      · simp only [half, List.length_take]; omega
      · simp only [half, List.length_take, List.length_drop]; omega
    · exact halvesF_sub L k a b h
def shortH (a b : List (List Nat)) : List Nat := textT true a ++ 44 :: textT true b
/-- the shorter of the two texts -/
def shortG (L : List (List Nat)) : List Nat :=
  match halves L with
  | none => textT true L
  | some (a, b) => if (shortH a b).length < (textT true L).length then shortH a b else textT true L
def shortT (n : Int) (L : List (List Nat)) : List Nat := if goodAll n L = true then shortG L else []
theorem short_sizes {n : Int} {L a b : List (List Nat)} (hg : goodAll n L = true) (h : halves L = some (a, b)) : a.length ≤ 1000 ∧ b.length ≤ 1000 ∧ (textT true a).length ≤ 280 ∧ (textT true b).length ≤ 280 := by
  obtain ⟨h1, h2, h3, h4⟩ := halvesF_sub L _ a b h
  have hl := goodAll_len hg
  have h5 := textT_len a true (fun l hl => goodC_len (goodAll_mem hg l (h1 l hl)))
  have h6 := textT_len b true (fun l hl => goodC_len (goodAll_mem hg l (h2 l hl)))
  omega

set_option maxRecDepth 100000 in
set_option maxHeartbeats 1000000 in
theorem iShortNotation_any (n : Int) (v : Value) (L : List (List Nat)) (w : World) (h : Txts w v L) (hl : L.length ≤ 2000000) :
    Calls Tryd.prog 23 #[.int .i64 n, v] w (TextRes (shortT n L) (goodAll n L) w) := by
  have hN := iNotationText_any n v L w h hl
  have HH : Hid (∀ w, Txts w v L → Calls Tryd.prog 7 #[.int .i64 n, v] w _) := Lib.hid (fun w h => iHalvesOf_any n v L w h hl)
  have HT := Lib.hid h
  cases hg : goodAll n L
  · have hr : shortT n L = [] := by unfold shortT; rw [hg]; rfl
    rw [hr]
    rw [hg] at hN
    clear hg hr HH
    go_enter Tryd.func23, Tryd.ntmps23
    go_wp2_with fail
    refine hN.mono ?_
    rintro e w1 ⟨rfl, hb1⟩
    go_wp2
    go_ret2
    exact ⟨rfl, hb1⟩
  · have hr : shortT n L = shortG L := by unfold shortT; rw [hg]; rfl
    have hn : noteT n L = textT true L := by unfold noteT; rw [hg]; rfl
    have hh : halvesR n L = halves L := by unfold halvesR; rw [hg]; rfl
    rw [hr]
    rw [hg, hn] at hN
    rw [hh] at HH
    have HG := Lib.hid hg
    clear hr hn hh hg
    cases hv : halves L with
    | none =>
      have hs : shortG L = textT true L := by unfold shortG; rw [hv]
      rw [hs]
      rw [hv] at HH
      generalize textT true L = tot at *
      clear hs hv
      go_enter Tryd.func23, Tryd.ntmps23
      go_wp2_with fail
      refine hN.mono ?_
      rintro e w1 ⟨rfl, hb1⟩
      have HB1 := Lib.hid hb1
      clear hb1 hN
      go_wp2_with fail
      refine (HH.out _ (HT.out.kept HB1.out)).mono ?_
      rintro e w2 ⟨va, vb, rfl, _, _, _, hb2⟩
      have HB2 := Lib.hid (HB1.out.trans (hb2.mono HB1.out.size))
      clear hb2
      go_wp2
      go_ret2
      exact ⟨rfl, HB2.out⟩
    | some ab =>
      obtain ⟨a, b⟩ := ab
      obtain ⟨s1, s2, s3, s4⟩ := short_sizes HG.out hv
      have hs : shortG L = if (shortH a b).length < (textT true L).length then shortH a b else textT true L := by unfold shortG; rw [hv]
      have hlen : (shortH a b).length = (textT true a).length + 1 + (textT true b).length := by unfold shortH; simp; omega
      have hcat : txt (shortH a b) = txt (textT true a) ++ ⟨#[44]⟩ ++ txt (textT true b) := by
        unfold shortH
        rw [show textT true a ++ 44 :: textT true b = (textT true a ++ [44]) ++ textT true b by simp, txt_app, txt_app]
        rfl
      rw [hv] at HH
      have HJA : Hid (∀ u w, Txts w u a → Calls Tryd.prog 43 #[u] w _) := Lib.hid (fun u w h => joinChanges_any u a w h s1 (by omega))
      have HJB : Hid (∀ u w, Txts w u b → Calls Tryd.prog 43 #[u] w _) := Lib.hid (fun u w h => joinChanges_any u b w h s2 (by omega))
      have htl := goodAll_text HG.out
      generalize shortG L = res at *
      generalize textT true L = tot at *
      generalize shortH a b = sh at *
      generalize textT true a = ta at *
      generalize textT true b = tb at *
      have HS := Lib.hid hs
      have HCAT := Lib.hid hcat
      have z1 : ((txt ta).size : Int) = (ta.length : Int) := by rw [txt_size]
      have z2 : ((txt tb).size : Int) = (tb.length : Int) := by rw [txt_size]
      have z3 : ((txt tot).size : Int) = (tot.length : Int) := by rw [txt_size]
      have s3' : (txt ta).size ≤ 280 := by rw [txt_size]; exact s3
      have s4' : (txt tb).size ≤ 280 := by rw [txt_size]; exact s4
      have s5' : (txt tot).size ≤ 280 := by rw [txt_size]; exact htl
      have HLEN := Lib.hid hlen
      clear hs hv hcat s1 s2 hlen
      by_cases hcmp : sh.length < tot.length
      · have hc1 : ((ta.length : Int) + 1 + tb.length) < tot.length := by have := HLEN.out; omega
        have HR : Hid (res = sh) := Lib.hid (by rw [HS.out, if_pos hcmp])
        clear HS hcmp
        go_enter Tryd.func23, Tryd.ntmps23
        go_wp2_with fail
        refine hN.mono ?_
        rintro e w1 ⟨rfl, hb1⟩
        have HB1 := Lib.hid hb1
        clear hb1 hN
        go_wp2_with fail
        refine (HH.out _ (HT.out.kept HB1.out)).mono ?_
        rintro e w2 ⟨va, vb, rfl, hna, hnb, _, hb2⟩
        have HB2 := Lib.hid (HB1.out.trans (hb2.mono HB1.out.size))
        have HA := Lib.hid hna.own.txts
        have HB := Lib.hid hnb.own.txts
        clear hb2 hna hnb HB1
        go_wp2_with fail
        refine (HJA.out _ _ HA.out).mono ?_
        rintro e w3 ⟨rfl, hb3⟩
        have HB3 := Lib.hid (HB2.out.trans (hb3.mono HB2.out.size))
        have HBT := Lib.hid (HB.out.kept hb3)
        clear hb3 HB2 HA HB
        go_wp2_with fail
        refine (HJB.out _ _ HBT.out).mono ?_
        rintro e w4 ⟨rfl, hb4⟩
        have HB4 := Lib.hid (HB3.out.trans (hb4.mono HB3.out.size))
        clear hb4 HB3 HBT
        go_wp2
        go_ret2
        exact ⟨by rw [HR.out, HCAT.out]; rfl, HB4.out⟩
      · have hc1 : ¬ ((ta.length : Int) + 1 + tb.length) < tot.length := by have := HLEN.out; omega
        have HR : Hid (res = tot) := Lib.hid (by rw [HS.out, if_neg hcmp])
        clear HS hcmp
        go_enter Tryd.func23, Tryd.ntmps23
        go_wp2_with fail
        refine hN.mono ?_
        rintro e w1 ⟨rfl, hb1⟩
        have HB1 := Lib.hid hb1
        clear hb1 hN
        go_wp2_with fail
        refine (HH.out _ (HT.out.kept HB1.out)).mono ?_
        rintro e w2 ⟨va, vb, rfl, hna, hnb, _, hb2⟩
        have HB2 := Lib.hid (HB1.out.trans (hb2.mono HB1.out.size))
        have HA := Lib.hid hna.own.txts
        have HB := Lib.hid hnb.own.txts
        clear hb2 hna hnb HB1
        go_wp2_with fail
        refine (HJA.out _ _ HA.out).mono ?_
        rintro e w3 ⟨rfl, hb3⟩
        have HB3 := Lib.hid (HB2.out.trans (hb3.mono HB2.out.size))
        have HBT := Lib.hid (HB.out.kept hb3)
        clear hb3 HB2 HA HB
        go_wp2_with fail
        refine (HJB.out _ _ HBT.out).mono ?_
        rintro e w4 ⟨rfl, hb4⟩
        have HB4 := Lib.hid (HB3.out.trans (hb4.mono HB3.out.size))
        clear hb4 HB3 HBT
        go_wp2
        go_ret2
        exact ⟨by rw [HR.out]; rfl, HB4.out⟩
end Go.Proofs.YtdflpkkcjbdpfaaDoor
