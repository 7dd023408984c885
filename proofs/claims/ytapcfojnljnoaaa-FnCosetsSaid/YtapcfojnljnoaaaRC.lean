/- CosetsIn, the program. -/
import Derived.Test.YtapcfojnljnoaaaRB
namespace Go.Proofs.Ytapcfojnljnoaaa
open Go.RowKit
set_option linter.unusedSimpArgs false
set_option linter.unusedVariables false

theorem belowOnly {B b : Nat} {A W W' : World} (h : Below B A W) (ho : Only b W W') (hb : B ≤ b) (hs : B ≤ W.heap.size) : Below B A W' :=
  h.trans ⟨ho.os, ho.tape, ho.output, ho.size, fun k hk => ho.block k (by omega) (by omega)⟩
theorem onlyGrown {b : Nat} {W W' : World} (hg : W.grownBy W' (some b)) : Only b W W' := ⟨hg.os, hg.tape, hg.output, hg.size, fun k hk hne => hg.block k hk (fun e => by injection e with e; exact hne e)⟩
theorem SetAt.only {W W' : World} {n b c : Nat} {S : List (Nat → Nat)} (h : SetAt W n b S) (ho : Only c W W') (hne : b ≠ c) : SetAt W' n b S := h.block (ho.block b h.lt hne)
theorem NewD.only {B c : Nat} {W W' : World} {v : Value} {fs : List (Nat → Nat)} (h : NewD B W v fs) (ho : Only c W W') (hne : v.ownBlock ≠ some c) : NewD B W' v fs := h.blockK fun g hg => ho.block g (h.lt g hg).2 (fun e => hne (by rw [← e]; exact hg))
theorem NewD.apartSet {W : World} {n b B : Nat} {S fs : List (Nat → Nat)} {v : Value} (h : NewD B W v fs) (hs : SetAt W n b S) : v.ownBlock ≠ some b := by
  obtain ⟨h1, h2⟩ := h
  rcases h2 with ⟨rfl, h0⟩ | ⟨g, cap, cur, rfl, hBg, hb, _⟩
  · simp [Value.ownBlock]
  · obtain ⟨_, _, es, ⟨xs, clock, e1, _⟩, _⟩ := hs
    intro e
    have e : g = b := by simpa [Value.ownBlock] using e
    subst e
    rw [hb] at e1
    cases e1
theorem NewD.at8 {W : World} {B g m cap : Nat} {fs : List (Nat → Nat)} (h : NewD B W (.slice (some ⟨g, 0, none⟩) m cap) fs) (i : Nat) (hi : i < fs.length) : W.rangeAt g (i * 8) (cells8 fs[i]) := by
  obtain ⟨a', cap', e1, _, hcc⟩ := h.digs
  obtain ⟨g', off', e2, _, hc⟩ := hcc (by omega)
  injection e1 with e1
  rw [← e1] at e2
  injection e2 with e2
  injection e2 with e2 e3
  subst e2 e3
  have := hc i hi
  rwa [Nat.zero_add] at this
theorem dropF_take {S fs : List (Nat → Nat)} {j : Nat} (hj : j < fs.length) : dropF' S (fs.take (j + 1)) = lessF (dropF' S (fs.take j)) fs[j] := by
  unfold dropF'
  rw [List.take_add_one, List.getElem?_eq_getElem hj, List.foldl_append]
  rfl

set_option maxRecDepth 100000 in
set_option maxHeartbeats 1000000 in
theorem remove_any (n b : Nat) (S : List (Nat → Nat)) (v : Value) (fs : List (Nat → Nat)) (hr : Rows n fs) (hl : fs.length ≤ 1000) (w : World) (B : Nat) (h : NewD B w v fs) (hs : SetAt w n b S) :
    Calls Try.prog 74 #[.map (some b), v] w fun e w' => e = .returned (.tuple #[]) ∧ SetAt w' n b (dropF' S fs) ∧ Only b w w' := by
  obtain ⟨m, hm⟩ : ∃ m, fs.length = m := ⟨_, rfl⟩
  have hap := h.apartSet hs
  obtain ⟨a, cap, rfl, hcap, ha⟩ := h.view hm
  rw [hm] at hl
  have hl' : (m : Int) ≤ 1000 := by omega
  have HA := Lib.hid ha
  have HM := Lib.hid hm
  have HC := Lib.hid hr
  have HN0 := Lib.hid h
  have HS0 := Lib.hid hs
  have HAP := Lib.hid hap
  clear ha hm hcap hr h hs hap
  go_enter Try.func74, Try.ntmps74
  go_wp2
  go_loopg [8] m (fun q i wr => ∃ j : Nat, q + j = m ∧ i = .int .i64 j ∧ SetAt wr n b (dropF' S (fs.take j)) ∧ Only b w wr)
  case atStart => exact ⟨0, by omega, rfl, HS0.out, Only.refl _ _⟩
  case round =>
    clear HS0
    obtain ⟨j, hq, rfl, hs, hb⟩ := hrel
    have HS := Lib.hid hs
    have HB := Lib.hid hb
    have HQ := Lib.hid hq
    have HN := Lib.hid (HN0.out.only hb HAP.out)
    clear hs hb hq
    by_cases hlt : j < m
    · obtain ⟨g, rfl⟩ := HA.out (by omega)
      have hjx : j < fs.length := by rw [HM.out]; exact hlt
      have hset := dropF_take (S := S) hjx
      have hrow := HC.out _ (List.getElem_mem hjx)
      have hload := HN.out.at8 j hjx
      generalize fs[j] = x at *
      have HL := Lib.hid hload
      have hji : (j : Int) < m := by omega
      have HBX : Hid (Only b w (wr.alloc (.cells (dig8 x) 62))) := Lib.hid (HB.out.trans (Only.of_below ((Below.refl _ _).alloc (Nat.le_refl _) _)))
      have HXX := Lib.hid (RowAt.new wr 62 (dig8 x))
      have HSX := Lib.hid (HS.out.kept ((Below.refl _ _).alloc (Nat.le_refl _) (.cells (dig8 x) 62)))
      have HSET := Lib.hid hset
      clear hload hset
      go_wp2_with (first | (refine wpList_store_row rfl 62 _ _ rfl _ _ rfl rfl 62 _ (heap_at _ _ _ (by simp)) (by kernel_rfl) rfl (by kernel_rfl) ?_; rw [setRow_at _ _ _ _ _ (by simp)]) | (refine wpList_load8 rfl _ rfl g (j * 8) rfl x HL.out ?_) | (refine wpList_load_row rfl 62 _ rfl _ rfl 62 _ _ _ (HXX.out) Try.underlying62 rfl (by kernel_rfl) ?_) | (refine wpList_drop_row rfl _ _ rfl n b (dropF' S (fs.take j)) x hrow HSX.out rfl rfl ?_) | fail)
      intro w7 hs7 hg7
      rw [← HSET.out] at hs7
      have HS7 := Lib.hid hs7
      have HB7 := Lib.hid (HBX.out.trans (onlyGrown hg7))
      clear hs7 hg7 HSX HBX HXX HL HS HB HSET HN
      go_wp2
      go_roundg (gk - 1)
      case measure => have := HQ.out; omega
      case rel => exact ⟨j + 1, by have := HQ.out; omega, by go_num, HS7.out, HB7.out⟩
    · obtain rfl : gk = 0 := by have := HQ.out; omega
      obtain rfl : j = m := by have := HQ.out; omega
      have hs := HS.out
      rw [List.take_of_length_le (by rw [HM.out]; exact Nat.le_refl _)] at hs
      have HS2 := Lib.hid hs
      clear hs HS
      go_wp2
      go_end0
      exact ⟨rfl, HS2.out, HB.out⟩

/-- what the walk through the rows knows -/
structure Inv (n : Nat) (gs list left S : List (Nat → Nat)) (j : Nat) : Prop where
  away : ∀ x ∈ list, x ∉ left → leastF n gs x ∈ S
  done : ∀ x ∈ list.take j, leastF n gs x ∈ S
  only : ∀ y ∈ S, ∃ x ∈ list, leastF n gs x = y
  len : S.length ≤ j
theorem Inv.start (n : Nat) (gs list : List (Nat → Nat)) : Inv n gs list (rowsIn list) [] 0 := ⟨fun x hx hn => absurd ((mem_rowsIn list x).2 hx) hn, fun x hx => by simp at hx, fun y hy => by simp at hy, by simp⟩
theorem Inv.skip {n : Nat} {gs list left S : List (Nat → Nat)} {j : Nat} (h : Inv n gs list left S j) (hj : j < list.length) (hout : list[j] ∉ left) : Inv n gs list left S (j + 1) :=
  ⟨h.away, fun x hx => by
    rw [List.take_add_one, List.getElem?_eq_getElem hj] at hx
    rcases List.mem_append.1 hx with hx | hx
    · exact h.done x hx
    · simp at hx; rw [hx]; exact h.away _ (List.getElem_mem hj) hout, h.only, Nat.le_succ_of_le h.len⟩
theorem Inv.take {n : Nat} {gs list left S : List (Nat → Nat)} {j : Nat} (h : Inv n gs list left S j) (hj : j < list.length) (hl : Rows n list) (hg : Rows n gs) (hn : gs.Nodup) (hG : IsGrp n gs) :
    Inv n gs list (dropF' left (cosF n gs list[j])) (withF S (leastF n gs list[j])) (j + 1) :=
  ⟨fun x hx hno => by
    rw [mem_dropF] at hno
    by_cases hxl : x ∈ left
    · have hxc : x ∈ cosF n gs list[j] := Classical.byContradiction fun h => hno ⟨hxl, h⟩
      rw [least_eq (hl _ (List.getElem_mem hj)) hg hn hG hxc]
      exact mem_with.2 (.inr rfl)
    · exact mem_with.2 (.inl (h.away x hx hxl)), fun x hx => by
    rw [List.take_add_one, List.getElem?_eq_getElem hj] at hx
    rcases List.mem_append.1 hx with hx | hx
    · exact mem_with.2 (.inl (h.done x hx))
    · simp at hx; rw [hx]; exact mem_with.2 (.inr rfl), fun y hy => by
    rcases mem_with.1 hy with hy | rfl
    · exact h.only y hy
    · exact ⟨_, List.getElem_mem hj, rfl⟩, by have := h.len; have := with_len S (leastF n gs list[j]); omega⟩
theorem Inv.fin {n : Nat} {gs list left S : List (Nat → Nat)} {j : Nat} (h : Inv n gs list left S j) (hj : list.length ≤ j) (x : Nat → Nat) : x ∈ S ↔ x ∈ list.map (leastF n gs) := by
  constructor
  · intro hx
    obtain ⟨y, hy, rfl⟩ := h.only x hx
    exact List.mem_map.2 ⟨y, hy, rfl⟩
  · intro hx
    obtain ⟨y, hy, rfl⟩ := List.mem_map.1 hx
    exact h.done y (by rw [List.take_of_length_le hj]; exact hy)

noncomputable def ciB (L M : List (List Nat)) : Bool := isG L && rowsB (firstN L) M
noncomputable def ciF (L M : List (List Nat)) : List (Nat → Nat) := dedF (sortF (firstN L) ((rF M).map (leastF (firstN L) (rF L))))
noncomputable def ciL (L M : List (List Nat)) : List (List Nat) := if ciB L M = true then rowsL (firstN L) (ciF L M) else []
theorem ciL_no {L M : List (List Nat)} (h : ciB L M = false) : ciL L M = [] := by unfold ciL; simp [h]
theorem ciL_yes {L M : List (List Nat)} (h : ciB L M = true) : ciL L M = rowsL (firstN L) (ciF L M) := by unfold ciL; simp [h]
theorem least_rows {n : Nat} {gs list : List (Nat → Nat)} (hl : Rows n list) (hg : Rows n gs) (hG : IsGrp n gs) : Rows n (list.map (leastF n gs)) := fun y hy => by
  obtain ⟨x, hx, rfl⟩ := List.mem_map.1 hy
  exact least_row (hl x hx) hg hG

set_option maxRecDepth 100000 in
set_option maxHeartbeats 1000000 in
theorem iCosetsIn_any (v u : Value) (L M : List (List Nat)) (w : World) (h : Txts w v L) (hu : Txts w u M) (hl : L.length ≤ 2000000) (hs : ∀ l ∈ L, l.length ≤ maxLen) (hl2 : M.length ≤ 2000000) (hs2 : ∀ l ∈ M, l.length ≤ maxLen) :
    Calls Try.prog 34 #[v, u] w (TextsAny (ciL L M) (ciB L M) w) := by
  have HC := Lib.hid (groupRows_any v L w h hl hs)
  have HW := Lib.hid (fun k w h => rowsOfStage_any k u M w h hl2 hs2)
  have HU := Lib.hid hu
  unfold GroupOut at HC
  unfold RowsOut2 at HW
  unfold TextsAny
  by_cases hg : isG L = true
  · obtain ⟨_, hb, h0, h3, h8, hrows, hrise, hgrp, hfl⟩ := isG_facts hg
    obtain ⟨m, hm⟩ : ∃ m, L.length = m := ⟨_, rfl⟩
    obtain ⟨a, cap, rfl, hcap, ha⟩ := id h
    obtain ⟨g, off, s0, rfl, hgl, c0, hs0⟩ := txts_first h h0
    obtain ⟨ub, uc, rfl, -⟩ := id hu
    have hmp : (0 : Int) < (m : Int) := by omega
    rw [hm] at HC ⊢
    simp only [hg, if_true] at HC
    have HG0 := Lib.hid c0
    replace HW := HW.out (firstN L)
    by_cases hb2 : rowsB (firstN L) M = true
    · have hB : ciB L M = true := by unfold ciB; rw [hg, hb2]; rfl
      rw [ciL_yes hB, hB]
      unfold ciF
      have hlrows := rowsB_rows hb2
      have hll : (rF M).length ≤ 800 := by rw [rF_len]; exact rowsB_len hb2
      simp only [hb2, if_true] at HW
      have HW := Lib.hid HW
      have HNDG := Lib.hid hrise.nodup
      generalize firstN L = n at *
      generalize rF L = gs at *
      generalize rF M = ls at *
      generalize hum : M.length = um at *
      have HLR := Lib.hid hlrows
      have HGR := Lib.hid hrows
      have HGP := Lib.hid hgrp
      obtain ⟨lg, hlg⟩ : ∃ k, gs.length = k := ⟨_, rfl⟩
      obtain ⟨ll, hll2⟩ : ∃ k, ls.length = k := ⟨_, rfl⟩
      have hlgp : 0 < lg := by rw [← hlg]; exact List.length_pos_of_mem hgrp.1
      have hlgi : (0 : Int) < (lg : Int) := by omega
      have HLG := Lib.hid hlg
      have HLL := Lib.hid hll2
      have hlli : (ll : Int) ≤ 800 := by omega
      have hfl' : gs.length ≤ 1000 := by omega
      have hll' : ls.length ≤ 1000 := by omega
      have HCO := Lib.hid (fun v f w (hf : IsRow n f) h => coset_any n v gs f hf hrows hfl' w h)
      have HSO := Lib.hid (fun v w h => rowSetOf_any n v ls hlrows hll' w h)
      have hmm := @run_makeMap Try.prog
      unfold SortedOut at HCO
      unfold SetOut at HSO
      have HU : Hid (Txts w (.slice ub um uc) M) := HU
      generalize hres : dedF (sortF n (ls.map (leastF n gs))) = res
      have HRES := Lib.hid hres
      clear h hu hl hs hl2 hs2 hg hb2 hB hb h0 h3 h8 hrows hrise hgrp hfl hm hcap ha c0 hlrows hll hlg hll2 hres hum
      go_enter Try.func34, Try.ntmps34
      go_wp2_with fail
      refine HC.out.mono ?_
      rintro e w1 ⟨v1, rfl, hn1, hb1⟩
      have HB1 := Lib.hid hb1
      have HN1 := Lib.hid hn1
      have HU1 := Lib.hid (HU.out.kept hb1)
      have c1 := (hb1.cell (p := ⟨g, off, none⟩) hgl).trans HG0.out
      clear hb1 hn1
      go_wp2_with fail
      refine (HW.out _ HU1.out).mono ?_
      rintro e w2 ⟨v2, rfl, hn2, hb2⟩
      have HB2 := Lib.hid (HB1.out.trans (hb2.mono HB1.out.size))
      have HN2 := Lib.hid (HN1.out.kept hb2)
      have HM2 := Lib.hid (hn2.lower HB1.out.size)
      clear hb2 hn2 HB1 HN1 HU1 c1
      go_wp2_with fail
      refine (HSO.out _ _ HM2.out.digs).mono ?_
      rintro e w3 ⟨bl, rfl, hbl, hs3, hb3⟩
      have HB3 := Lib.hid (HB2.out.trans (hb3.mono HB2.out.size))
      have HN3 := Lib.hid (HN2.out.kept hb3)
      have HM3 := Lib.hid (HM2.out.kept hb3)
      have HS3 := Lib.hid hs3
      have HBL : Hid (w.heap.size ≤ bl ∧ bl ≠ w3.heap.size) := Lib.hid ⟨Nat.le_trans HB2.out.size hbl, by have := hs3.lt; omega⟩
      have hal : Below w3.heap.size w3 (w3.alloc (.map #[] 0)) := (Below.refl _ _).alloc (Nat.le_refl _) _
      have HB4 := Lib.hid (HB3.out.trans (hal.mono HB3.out.size))
      have HN4 := Lib.hid (HN3.out.kept hal)
      have HM4 := Lib.hid (HM3.out.kept hal)
      have HS4 := Lib.hid (HS3.out.kept hal)
      have HT4 := Lib.hid (SetAt.made w3 n)
      have HBS : Hid (w.heap.size ≤ w3.heap.size) := Lib.hid HB3.out.size
      obtain ⟨va, vc, rfl, -, hva⟩ := HM3.out.view HLL.out
      have HVA := Lib.hid hva
      clear hb3 hs3 hal HB2 HN2 HM2 HB3 HN3 HM3 HS3 hbl hva
      go_wp2
      generalize w3.heap.size = bs at *
      go_loopg [37] ll (fun q i wr => ∃ (j : Nat) (left S : List (Nat → Nat)), q + j = ll ∧ i = .int .i64 j ∧ NewD w.heap.size wr v1 gs ∧ NewD w.heap.size wr (.slice va ll vc) ls ∧ SetAt wr n bl left ∧ SetAt wr n bs S ∧ Inv n gs ls left S j ∧ Below w.heap.size w wr)
      case atStart => exact ⟨0, _, [], by omega, rfl, HN4.out, HM4.out, HS4.out, HT4.out, Inv.start n gs ls, HB4.out⟩
      case round =>
        clear HN4 HM4 HS4 HT4 HB4
        obtain ⟨j, left, S, hq, rfl, hn, hmm2, hsl, hss, hinv, hb⟩ := hrel
        have HQ := Lib.hid hq
        have HN := Lib.hid hn
        have HM := Lib.hid hmm2
        have HSL := Lib.hid hsl
        have HSS := Lib.hid hss
        have HI := Lib.hid hinv
        have HB := Lib.hid hb
        clear hq hn hmm2 hsl hss hinv hb
        by_cases hlt : j < ll
        · obtain ⟨gl, rfl⟩ := HVA.out (by omega)
          have hjx : j < ls.length := by rw [HLL.out]; exact hlt
          have hrow := HLR.out _ (List.getElem_mem hjx)
          have hload := HM.out.at8 j hjx
          have HTK : Hid (ls[j] ∈ left → Inv n gs ls (dropF' left (cosF n gs ls[j])) (withF S (leastF n gs ls[j])) (j + 1)) := Lib.hid (fun _ => HI.out.take hjx HLR.out HGR.out HNDG.out HGP.out)
          have HSK : Hid (ls[j] ∉ left → Inv n gs ls left S (j + 1)) := Lib.hid (fun h => HI.out.skip hjx h)
          have hSl : S.length < maxLen := by have := HI.out.len; unfold maxLen; omega
          generalize ls[j] = x at *
          have HL := Lib.hid hload
          have HROW := Lib.hid hrow
          have hji : (j : Int) < ll := by omega
          have hal : Below wr.heap.size wr (wr.alloc (.cells (dig8 x) 62)) := (Below.refl _ _).alloc (Nat.le_refl _) _
          have HBX := Lib.hid (HB.out.trans (hal.mono HB.out.size))
          have HXX := Lib.hid (RowAt.new wr 62 (dig8 x))
          have HNX := Lib.hid (HN.out.kept hal)
          have HMX := Lib.hid (HM.out.kept hal)
          have HSLX := Lib.hid (HSL.out.kept hal)
          have HSSX := Lib.hid (HSS.out.kept hal)
          clear hload hal hrow HN HM HSL HSS HB HI
          cases hin : inB x left
          · have HI2 := Lib.hid (HSK.out (inB_no.1 hin))
            clear HTK HSK
            go_wp2_with (first | (refine wpList_store_row rfl 62 _ _ rfl _ _ rfl rfl 62 _ (heap_at _ _ _ (by simp)) (by kernel_rfl) rfl (by kernel_rfl) ?_; rw [setRow_at _ _ _ _ _ (by simp)]) | (refine wpList_load8 rfl _ rfl gl (j * 8) rfl x HL.out ?_) | (refine wpList_load_row rfl 62 _ rfl _ rfl 62 _ _ _ (HXX.out) Try.underlying62 rfl (by kernel_rfl) ?_) | (at_lookup; refine wpList_look_row rfl _ _ rfl n bl left x HROW.out HSLX.out rfl rfl ?_; rw [hin]) | fail)
            go_roundg (gk - 1)
            case measure => have := HQ.out; omega
            case rel => exact ⟨j + 1, left, S, by have := HQ.out; omega, by go_num, HNX.out, HMX.out, HSLX.out, HSSX.out, HI2.out, HBX.out⟩
          · have HI2 := Lib.hid (HTK.out (inB_iff.1 hin))
            clear HTK HSK
            go_wp2_with (first | (refine wpList_store_row rfl 62 _ _ rfl _ _ rfl rfl 62 _ (heap_at _ _ _ (by simp)) (by kernel_rfl) rfl (by kernel_rfl) ?_; rw [setRow_at _ _ _ _ _ (by simp)]) | (refine wpList_load8 rfl _ rfl gl (j * 8) rfl x HL.out ?_) | (refine wpList_load_row rfl 62 _ rfl _ rfl 62 _ _ _ (HXX.out) Try.underlying62 rfl (by kernel_rfl) ?_) | (at_lookup; refine wpList_look_row rfl _ _ rfl n bl left x HROW.out HSLX.out rfl rfl ?_; rw [hin]) | fail)
            refine (HCO.out v1 x _ HROW.out HNX.out.digs).mono ?_
            rintro e w5 ⟨v5, rfl, hn5, hb5⟩
            have HC5 : Hid (NewD (wr.alloc (.cells (dig8 x) 62)).heap.size w5 v5 (cosF n gs x)) := Lib.hid hn5
            have HB5 := Lib.hid (HBX.out.trans (hb5.mono HBX.out.size))
            have HN5 := Lib.hid (HNX.out.kept hb5)
            have HM5 := Lib.hid (HMX.out.kept hb5)
            have HSL5 := Lib.hid (HSLX.out.kept hb5)
            have HSS5 := Lib.hid (HSSX.out.kept hb5)
            have hcl : (cosF n gs x).length = lg := by rw [cos_len]; exact HLG.out
            have HRM := Lib.hid (remove_any n bl left v5 (cosF n gs x) (cos_rows HROW.out HGR.out) (by rw [hcl]; have := HLG.out; omega) w5 _ HC5.out HSL5.out)
            clear hb5 hn5 HXX HL HBX HNX HMX HSLX HSSX
            go_wp2_with fail
            refine HRM.out.mono ?_
            rintro e w6 ⟨rfl, hs6, ho6⟩
            have HSL6 := Lib.hid hs6
            have HSS6 := Lib.hid (HSS5.out.only ho6 (fun e => HBL.out.2 e.symm))
            have HN6 := Lib.hid (HN5.out.only ho6 (HN5.out.apartSet HSL5.out))
            have HM6 := Lib.hid (HM5.out.only ho6 (HM5.out.apartSet HSL5.out))
            have HC6 := Lib.hid (HC5.out.only ho6 (HC5.out.apartSet HSL5.out))
            have HB6 := Lib.hid (belowOnly HB5.out ho6 HBL.out.1 HB5.out.size)
            have hc0 : 0 < (cosF n gs x).length := by omega
            obtain ⟨ca, ccap, rfl, -, hca⟩ := HC6.out.view hcl
            obtain ⟨gc, rfl⟩ := hca (by omega)
            have hl6 := HC6.out.at8 0 hc0
            rw [← least_get hc0] at hl6
            have HL6 := Lib.hid hl6
            have HLR6 := Lib.hid (least_row HROW.out HGR.out HGP.out)
            clear hs6 ho6 hc0 hca hl6 HSL5 HSS5 HN5 HM5 HC5 HB5 HRM HC6
            go_wp2_with (first | (refine wpList_load8 rfl _ rfl gc (0 * 8) rfl (leastF n gs x) HL6.out ?_) | (at_mapUpdate; refine wpList_put_row rfl _ _ _ rfl n bs S (leastF n gs x) HLR6.out HSS6.out hSl rfl rfl rfl ?_) | fail)
            intro w7 hs7 hg7
            have HSS7 := Lib.hid hs7
            have ho7 := onlyGrown hg7
            have HSL7 := Lib.hid (HSL6.out.only ho7 HBL.out.2)
            have HN7 := Lib.hid (HN6.out.only ho7 (HN6.out.apartSet HSS6.out))
            have HM7 := Lib.hid (HM6.out.only ho7 (HM6.out.apartSet HSS6.out))
            have HB7 := Lib.hid (belowOnly HB6.out ho7 HBS.out HB6.out.size)
            clear hs7 hg7 ho7 HSL6 HSS6 HN6 HM6 HB6
            go_wp2
            go_roundg (gk - 1)
            case measure => have := HQ.out; omega
            case rel => exact ⟨j + 1, _, _, by have := HQ.out; omega, by go_num, HN7.out, HM7.out, HSL7.out, HSS7.out, HI2.out, HB7.out⟩
        · obtain rfl : j = ll := by have := HQ.out; omega
          have hfin := HI.out.fin (by rw [HLL.out]; exact Nat.le_refl _)
          have hds := ded_sort (least_rows HLR.out HGR.out HGP.out) HSS.out.rows HSS.out.nodup hfin
          rw [HRES.out] at hds
          subst hds
          have hSl : S.length ≤ 1000 := by have := HI.out.len; omega
          have HSD := Lib.hid (sorted_any n bs S hSl wr HSS.out)
          have HRL := Lib.hid (rows_sort HSS.out.rows)
          have HSL8 : Hid ((sortF n S).length ≤ 1000) := Lib.hid (by rw [sortF_len]; exact hSl)
          unfold SortedOut at HSD
          clear hfin hSl HRES hlt
          go_wp2_with fail
          refine HSD.out.mono ?_
          rintro e w8 ⟨v8, rfl, hn8, hb8⟩
          have HB8 := Lib.hid (HB.out.trans (hb8.mono HB.out.size))
          have HRT := Lib.hid (rowTexts_any n v8 (sortF n S) HRL.out HSL8.out w8 hn8.digs)
          unfold TextsOut at HRT
          clear hb8 hn8
          go_wp2_with fail
          refine HRT.out.mono ?_
          rintro e w9 ⟨v9, rfl, hn9, hb9⟩
          have HB9 := Lib.hid (HB8.out.trans (hb9.mono HB8.out.size))
          have HN9 := Lib.hid (hn9.lower HB8.out.size)
          obtain ⟨ua, uc, rfl, -⟩ := hn9.own.view
          clear hb9 hn9
          go_wp2
          go_ret2
          exact ⟨_, rfl, HN9.out, HB9.out⟩
    · have hb2 : rowsB (firstN L) M = false := by simpa using hb2
      have hB : ciB L M = false := by unfold ciB; rw [hb2, Bool.and_false]
      rw [ciL_no hB, hB]
      simp only [hb2, Bool.false_eq_true, if_false] at HW
      have HW := Lib.hid HW
      generalize firstN L = n at *
      generalize rF L = gs at *
      clear h hu hl hs hl2 hs2 hg hb2 hB hb h0 h3 h8 hrows hrise hgrp hfl hm hcap ha c0
      go_enter Try.func34, Try.ntmps34
      go_wp2_with fail
      refine HC.out.mono ?_
      rintro e w1 ⟨v1, rfl, hn1, hb1⟩
      have HB1 := Lib.hid hb1
      have HU1 := Lib.hid (HU.out.kept hb1)
      have c1 := (hb1.cell (p := ⟨g, off, none⟩) hgl).trans HG0.out
      clear hb1 hn1
      go_wp2_with fail
      refine (HW.out _ HU1.out).mono ?_
      rintro e w2 ⟨v2, rfl, hn2, hb2⟩
      have HB2 := Lib.hid (HB1.out.trans (hb2.mono HB1.out.size))
      clear hb2 hn2 HB1 HU1 c1
      go_wp2
      go_ret2
      exact ⟨_, rfl, New.nil _ _ _, HB2.out⟩
  · have hg : isG L = false := by simpa using hg
    have hB : ciB L M = false := by unfold ciB; rw [hg]; rfl
    rw [ciL_no hB, hB]
    simp only [hg, Bool.false_eq_true, if_false] at HC
    clear h hu hl hs hl2 hs2 hg hB HU HW
    go_enter Try.func34, Try.ntmps34
    go_wp2_with fail
    refine HC.out.mono ?_
    rintro e w1 ⟨v1, rfl, hn1, hb1⟩
    go_wp2
    go_ret2
    exact ⟨_, rfl, New.nil _ _ _, hb1⟩
end Go.Proofs.Ytapcfojnljnoaaa
