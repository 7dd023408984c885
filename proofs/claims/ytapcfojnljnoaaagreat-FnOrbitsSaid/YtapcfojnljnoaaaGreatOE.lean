/- OrbitsOf, the model. -/
import Derived.Test.YtapcfojnljnoaaaGreatOD
import Derived.Test.YtapcfojnljnoaaaGreatSU
import Derived.Deep.OwnRows
import Derived.BigQuiet
namespace Go.Proofs.YtapcfojnljnoaaaGreat
open Go.RowKit
set_option linter.unusedSimpArgs false
set_option linter.unusedVariables false

theorem listB_at2 {n : Nat} {L : List (List Nat)} : (listB L && !(decide (0 < L.length) && !decide (firstN L = n))) = rowsB n L := by
  cases L with
  | nil => simp [listB, rowsB]
  | cons x t =>
    have h1 : listB (x :: t) = rowsB x.length (x :: t) := rfl
    have h2 : firstN (x :: t) = x.length := rfl
    rw [h1, h2]
    by_cases hx : x.length = n
    · simp [hx]
    · rw [decide_eq_false hx]
      have : rowsB n (x :: t) = false := by
        have : rowB n x = false := by simp [rowB]; intro _; omega
        simp [rowsB, this]
      rw [this]; simp
theorem l1Least_any (a b : Nat) (w : World) : Calls Tryz.prog 25 #[.int .i64 a, .int .i64 b] w fun e w' => e = .returned (.int .i64 ((min a b : Nat) : Int)) ∧ w' = w := by
  by_cases h : a < b
  · have hi : (a : Int) < (b : Int) := by omega
    rw [show min a b = a by omega]
    clear h
    go_enter Tryz.func25, Tryz.ntmps25
    go_wp2
    go_ret
    exact ⟨rfl, rfl⟩
  · have hi : ¬ (a : Int) < (b : Int) := by omega
    rw [show min a b = b by omega]
    clear h
    go_enter Tryz.func25, Tryz.ntmps25
    go_wp2
    go_ret
    exact ⟨rfl, rfl⟩
theorem l1At_act {n : Nat} {f : Nat → Nat} (hf : IsRow n f) {t : Nat} (ht : t < n) (w : World) : Calls Tryz.prog 26 #[.string (strOf n f), .int .i64 ((t : Int) + 1)] w fun e w' => e = .returned (.int .i64 ((act f (t + 1) : Nat) : Int)) ∧ w' = w := by
  have h48 := hf.lo t ht
  have := l1At_any n f (strOf n f) (isStr_row hf) ((t : Int) + 1) (by omega) (by omega) hf.eight (by rw [show ((t : Int) + 1).toNat - 1 = t from by omega]; omega) w
  refine this.mono ?_
  rintro e w' ⟨rfl, rfl⟩
  refine ⟨?_, rfl⟩
  congr 2
  rw [show ((t : Int) + 1).toNat - 1 = t from by omega]
  unfold act
  rw [Nat.add_sub_cancel]
  omega
/-- a slice of n + 1 numbers -/
def PartAt (W : World) (g n : Nat) (part : Nat → Nat) : Prop := ∃ cs, RowAt W g 3 cs ∧ cs.size = n + 1 ∧ ∀ p, p ≤ n → cs[p]? = some (.int .i64 ((part p : Nat) : Int))
theorem PartAt.congr {W : World} {g n : Nat} {p q : Nat → Nat} (h : PartAt W g n p) (e : ∀ x, x ≤ n → p x = q x) : PartAt W g n q := by
  obtain ⟨cs, h1, h2, h3⟩ := h
  exact ⟨cs, h1, h2, fun x hx => by rw [h3 x hx, e x hx]⟩
theorem PartAt.cell {W : World} {g n : Nat} {part : Nat → Nat} (h : PartAt W g n part) {p : Nat} (hp : p ≤ n) : W.cell? ⟨g, p, none⟩ = some (.int .i64 ((part p : Nat) : Int)) ∧ W.frozen? ⟨g, p, none⟩ = false := by
  obtain ⟨cs, h1, h2, h3⟩ := h
  exact ⟨h1.cell p (h3 p hp), h1.free p⟩
theorem PartAt.set {W : World} {g n : Nat} {part : Nat → Nat} (h : PartAt W g n part) {p : Nat} (hp : p ≤ n) (v : Nat) : PartAt (W.setCell ⟨g, p, none⟩ (.int .i64 ((v : Nat) : Int))) g n (fun x => if x = p then v else part x) := by
  obtain ⟨cs, h1, h2, h3⟩ := h
  refine ⟨_, h1.set _ _, by simpa using h2, fun x hx => ?_⟩
  rw [Array.getElem?_setIfInBounds]
  by_cases e : p = x
  · subst e
    simp [show p < cs.size by omega]
  · have hxp : ¬ x = p := fun q => e q.symm
    rw [if_neg e, h3 x hx]
    simp [hxp]
theorem PartAt.kept {W W' : World} {g n : Nat} {part : Nat → Nat} (h : PartAt W g n part) (hb : Below W.heap.size W W') : PartAt W' g n part := by
  obtain ⟨cs, h1, h2⟩ := h
  exact ⟨cs, h1.kept hb, h2⟩
theorem PartAt.under {W W' : World} {B g n : Nat} {part : Nat → Nat} (h : PartAt W g n part) (hb : Below B W W') (hg : g < B) : PartAt W' g n part := by
  obtain ⟨cs, h1, h2⟩ := h
  exact ⟨cs, h1.keep hb hg, h2⟩
theorem PartAt.drewN {W : World} {g n : Nat} {part : Nat → Nat} (h : PartAt W g n part) (k : Nat) : PartAt (W.drewN k) g n part := h
theorem PartAt.made (w : World) (n np : Nat) (h : np = n + 1) : PartAt (w.alloc (.cells (madeCells #[.int .i64 0] np) 3)) w.heap.size n (fun _ => 0) := by
  subst h
  refine ⟨_, RowAt.new _ _ _, by simp [madeCells], fun p hp => ?_⟩
  rw [Array.getElem?_eq_getElem (by simp [madeCells]; omega)]
  simp [madeCells, Nat.mod_one]
/-- the numbers with a label -/
def selL (lab : Nat → Nat) (k t : Nat) : List Nat := ((List.range t).map (· + 1)).filter fun p => decide (lab p = k)
theorem selL_succ (lab : Nat → Nat) (k t : Nat) : selL lab k (t + 1) = if lab (t + 1) = k then selL lab k t ++ [t + 1] else selL lab k t := by
  unfold selL
  rw [List.range_succ, List.map_append, List.filter_append]
  by_cases h : lab (t + 1) = k <;> simp [h]
theorem selL_len (lab : Nat → Nat) (k t : Nat) : (selL lab k t).length ≤ t := by
  have := List.length_filter_le (fun p => decide (lab p = k)) ((List.range t).map (· + 1))
  unfold selL
  simpa using this
theorem selL_yes {n : Nat} {fs : List (Nat → Nat)} (hr : Rows n fs) {k : Nat} (h1 : 1 ≤ k) (h2 : k ≤ n) (h : leastIn n fs k) : selL (labs n fs n) k n = incL n (orbF n fs k) := by
  unfold selL incL
  refine List.filter_congr fun p hp => ?_
  obtain ⟨i, hi, rfl⟩ := List.mem_map.1 hp
  have := List.mem_range.1 hi
  rw [decide_eq_decide, lab_iff hr ⟨h1, h2⟩ ⟨by omega, by omega⟩]
  exact ⟨fun h => h.2, fun h' => ⟨h, h'⟩⟩
theorem selL_no {n : Nat} {fs : List (Nat → Nat)} (hr : Rows n fs) {k : Nat} (h1 : 1 ≤ k) (h2 : k ≤ n) (h : ¬ leastIn n fs k) : selL (labs n fs n) k n = [] := by
  unfold selL
  rw [List.filter_eq_nil_iff]
  intro p hp
  obtain ⟨i, hi, rfl⟩ := List.mem_map.1 hp
  have := List.mem_range.1 hi
  rw [decide_eq_true_eq, lab_iff hr ⟨h1, h2⟩ ⟨by omega, by omega⟩]
  exact fun h' => h h'.1

set_option maxRecDepth 100000 in
set_option maxHeartbeats 1000000 in
theorem sOrbitsOf_any (v : Value) (L : List (List Nat)) (n : Int) (w : World) (h : Txts w v L) (hl : L.length ≤ 2000000) (hs : ∀ l ∈ L, l.length ≤ maxLen) :
    Calls Tryz.prog 7 #[v, .int .i64 n] w (ListsN (orL n L) (orB n L) w) := by
  have HIN := Lib.hid (l1In_any n 3 8)
  have HR := Lib.hid (fun w h => l6Rows_any v L w h hl hs)
  have HT := Lib.hid h
  unfold ListsN
  obtain ⟨m, hm⟩ : ∃ m, L.length = m := ⟨_, rfl⟩
  by_cases hn : 3 ≤ n ∧ n ≤ 8
  · obtain ⟨k, rfl⟩ : ∃ k : Nat, n = (k : Int) := ⟨n.toNat, by omega⟩
    have hst : (decide ((3 : Int) ≤ (k : Int)) && decide ((k : Int) ≤ 8)) = true := by rw [decide_eq_true hn.1, decide_eq_true hn.2]; rfl
    rw [hst] at HIN
    have hO : orB (k : Int) L = rowsB (k : Int) L := by unfold orB; rw [hst, Bool.and_true]
    by_cases hb : listB L = true
    · by_cases hm0 : 0 < L.length
      · obtain ⟨g, off, s0, ha, hgl, c0, hs0⟩ : ∃ g off s0, (∃ cap, v = .slice (some ⟨g, off, none⟩) L.length cap) ∧ g < w.heap.size ∧ w.cell? ⟨g, off, none⟩ = some (.string s0) ∧ s0.size = firstN L := by
          obtain ⟨a, cap, rfl, hcap, hq⟩ := id h
          obtain ⟨g, off, s0, rfl, q1, q2, q3⟩ := txts_first h hm0
          exact ⟨g, off, s0, ⟨cap, rfl⟩, q1, q2, q3⟩
        obtain ⟨cap, rfl⟩ := ha
        have hmp : (0 : Int) < (m : Int) := by omega
        by_cases hz : firstN L = k
        · have hrk : rowsB (k : Int) L = true := by rw [← listB_at2, hb, decide_eq_true hz]; simp
          have hne : (((firstN L : Nat) : Int) != (k : Int)) = false := by rw [hz]; simp
          rw [hrk] at hO
          rw [orL_yes hO, hO, Int.toNat_natCast]
          have hrows := rowsB_rows hrk
          have hfl : (rF L).length = m := by rw [rF_len]; exact hm
          have hm8 : m ≤ 800 := by rw [← hm]; exact rowsB_len hrk
          have hmt : Txts w _ (rowsL k (rF L)) := Txts.rows h hrk
          rw [hb, hm] at HR
          rw [hm] at HT ⊢
          obtain ⟨xa, xc, hxe, -, hxa⟩ := hmt
          have HA : Hid (0 < m → ∃ g off, xa = some ⟨g, off, none⟩ ∧ g < w.heap.size ∧ ∀ j (hj : j < (rF L).length), w.cell? ⟨g, off + j, none⟩ = some (.string (strOf k (rF L)[j]))) := Lib.hid (fun h0 => by
            obtain ⟨g', o', e', hg', hc'⟩ := hxa (by rw [rowsL_len]; omega)
            refine ⟨g', o', e', hg', fun j hj => ?_⟩
            rw [hc' j (by rw [rowsL_len]; exact hj), rowsL, List.getD_eq_getElem?_getD, List.getElem?_map, List.getElem?_eq_getElem hj, Option.map_some, Option.getD_some, txt_rowL])
          have hxe2 := hxe
          injection hxe2 with hx1 hx2 hx3
          subst hx1
          have h3 : 3 ≤ k := by omega
          have h8 : k ≤ 8 := by omega
          have hk3 : (3 : Int) ≤ (k : Int) := by omega
          have hk8 : (k : Int) ≤ 8 := by omega
          have hmi : (m : Int) ≤ 800 := by omega
          have HLB := Lib.hid (fun t (h1 : 1 ≤ t) (h2 : t ≤ k) => And.intro (selL_yes hrows h1 h2) (selL_no hrows h1 h2))
          have HG := Lib.hid hrows
          have HFL := Lib.hid hfl
          have HC0 := Lib.hid c0
          generalize firstN L = z at *
          generalize rF L = fs at *
          obtain ⟨np, hnp⟩ : ∃ np, np = k + 1 := ⟨_, rfl⟩
          have hnpi : (k : Int) + 1 = (np : Int) := by omega
          have hnp9 : (np : Int) ≤ 9 := by omega
          have HNP := Lib.hid hnp
          have HNPI := Lib.hid hnpi
          obtain ⟨i1, hi1, hy0, hy1, hy2⟩ := info_parts infoInt
          have I1 := Lib.hid (⟨hi1, hy0, hy1, hy2⟩ : _ ∧ _ ∧ _ ∧ _)
          obtain ⟨i0, hi0, hz0, hz1, hz2⟩ := info_parts infoInts
          have I0 := Lib.hid (⟨hi0, hz0, hz1, hz2⟩ : _ ∧ _ ∧ _ ∧ _)
          clear h hl hs hb hm0 hm hrk hO hn hst hrows hfl hxe hx2 hx3 hxa hi0 hz0 hz1 hz2 hi1 hy0 hy1 hy2 hnp c0 hz
          go_enter Tryz.func7, Tryz.ntmps7
          go_wp2_with fail
          refine (HIN.out _).mono ?_
          rintro e w1 ⟨rfl, rfl⟩
          go_wp2_with fail
          refine (HR.out _ HT.out).mono ?_
          rintro e w2 ⟨rfl, hb2⟩
          have HB2 := Lib.hid hb2
          have c2 := (hb2.cell (p := ⟨g, off, none⟩) hgl).trans HC0.out
          clear hb2
          go_wp2_with (first | (at_make; refine wpList_make_row _ rfl _ _ 31 rfl 3 i1 (.int .i64 0) Tryz.underlying31 I1.out.1 I1.out.2.1 I1.out.2.2.1 rfl .i64 .i64 np (by rw [← HNPI.out]; rfl) (by rw [← HNPI.out]; rfl) (by rw [I1.out.2.2.2]; omega) (by omega) ?_) | fail)
          have HP3 := Lib.hid (PartAt.made w2 k np HNP.out)
          have HB3 := Lib.hid (HB2.out.alloc HB2.out.size (.cells (madeCells #[.int .i64 0] np) 3))
          have HGP : Hid (w.heap.size ≤ w2.heap.size) := Lib.hid HB2.out.size
          clear HB2
          go_wp2
          generalize w2.heap.size = gp at *
          go_loopg [43] np (fun q i wr => ∃ j : Nat, q + j = np ∧ i = .int .i64 j ∧ PartAt wr gp k (fun p => if p < j then p else 0) ∧ Below w.heap.size w wr)
          case atStart => exact ⟨0, by omega, rfl, HP3.out.congr (fun x hx => by simp), HB3.out⟩
          case round =>
            clear HP3 HB3
            obtain ⟨j, hq, rfl, hp, hb⟩ := hrel
            have HQ := Lib.hid hq
            have HP := Lib.hid hp
            have HB := Lib.hid hb
            clear hq hp hb
            by_cases hlt : j < np
            · have hjk : j ≤ k := by have := HNP.out; omega
              obtain ⟨c1, f1⟩ := HP.out.cell hjk
              have hji : (j : Int) < (np : Int) := by omega
              have HP2 := Lib.hid ((HP.out.set hjk j).congr (q := fun p => if p < j + 1 then p else 0) (fun x hx => by
                by_cases e : x = j
                · simp [e]
                · rw [if_neg e]
                  by_cases h : x < j
                  · rw [if_pos h, if_pos (by omega)]
                  · rw [if_neg h, if_neg (by omega)]))
              have HB2 := Lib.hid (HB.out.setCell (p := ⟨gp, j, none⟩) HGP.out (.int .i64 ((j : Nat) : Int)))
              clear HP HB
              go_wp2
              go_roundg (gk - 1)
              case measure => have := HQ.out; omega
              case rel => exact ⟨j + 1, by have := HQ.out; omega, by go_num, HP2.out, HB2.out⟩
            · obtain rfl : np = j := by have := HQ.out; omega
              have HP0 : Hid (PartAt wr gp k (labs k fs 0)) := Lib.hid (HP.out.congr (fun x hx => by rw [if_pos (by have := HNP.out; omega)]; rfl))
              clear HP hlt HQ
              go_wp2
              go_loopg [8] k (fun q i wr => ∃ r : Nat, q + r = k ∧ i = .int .i64 r ∧ PartAt wr gp k (labs k fs r) ∧ Below w.heap.size w wr)
              case atStart => exact ⟨0, by omega, rfl, HP0.out, HB.out⟩
              case round =>
                clear HP0 HB
                obtain ⟨r, hq, rfl, hp, hb⟩ := hrel
                have HQ2 := Lib.hid hq
                have HP := Lib.hid hp
                have HB := Lib.hid hb
                clear hq hp hb
                by_cases hlt : r < k
                · obtain ⟨q2, rfl⟩ : ∃ q', gk = q' + 1 := ⟨gk - 1, by have := HQ2.out; omega⟩
                  have hri : (r : Int) < (k : Int) := by omega
                  go_wp2
                  go_loopg [58] m (fun q i wr => ∃ (j : Nat) (pt : Nat → Nat), q + j = m ∧ i = .int .i64 j ∧ roundL k (fs.drop j) pt = labs k fs (r + 1) ∧ PartAt wr gp k pt ∧ Below w.heap.size w wr)
                  case atStart => exact ⟨0, labs k fs r, by omega, rfl, rfl, HP.out, HB.out⟩
                  case round =>
                    clear HP HB
                    obtain ⟨j, pt, hq, rfl, hrd, hp, hb⟩ := hrel
                    have HQ3 := Lib.hid hq
                    have HRD := Lib.hid hrd
                    have HP := Lib.hid hp
                    have HB := Lib.hid hb
                    clear hq hrd hp hb
                    by_cases hlj : j < m
                    · obtain ⟨q3, rfl⟩ : ∃ q', gk = q' + 1 := ⟨gk - 1, by have := HQ3.out; omega⟩
                      obtain ⟨gb, ob, hae, hgb, hcc⟩ := HA.out (by omega)
                      have hjx : j < fs.length := by rw [HFL.out]; exact hlj
                      have hrow := HG.out _ (List.getElem_mem hjx)
                      have c1 := (HB.out.cell (p := ⟨gb, ob + j, none⟩) hgb).trans (hcc j hjx)
                      cases hae
                      have hrd := HRD.out
                      rw [List.drop_eq_getElem_cons hjx] at hrd
                      generalize fs[j] = x at *
                      have HRD2 : Hid (roundL k (fs.drop (j + 1)) (sweepTo x pt k) = labs k fs (r + 1)) := Lib.hid hrd
                      have HAT := Lib.hid (fun t (ht : t < k) W => l1At_act hrow ht W)
                      have HRNG := Lib.hid (fun t (ht : t < k) => act_rng hrow (x := t + 1) (by omega) (by omega))
                      have hji : (j : Int) < (m : Int) := by omega
                      generalize strOf k x = sx at *
                      clear hrow hrd hcc HRD
                      go_wp2
                      go_loopg [11] k (fun q i wr => ∃ t : Nat, q + t = k ∧ i = .int .i64 ((t : Int) + 1) ∧ PartAt wr gp k (sweepTo x pt t) ∧ Below w.heap.size w wr)
                      case atStart => exact ⟨0, by omega, rfl, HP.out, HB.out⟩
                      case round =>
                        clear HP HB c1
                        obtain ⟨t, hq, rfl, hp, hb⟩ := hrel
                        have HQ4 := Lib.hid hq
                        have HP := Lib.hid hp
                        have HB := Lib.hid hb
                        clear hq hp hb
                        by_cases hlt4 : t < k
                        · obtain ⟨hz1, hz2⟩ := HRNG.out t hlt4
                          have HATX := Lib.hid (HAT.out t hlt4)
                          have hsw : sweepTo x pt (t + 1) = edgeL x (sweepTo x pt t) (t + 1) := rfl
                          have HED : Hid (∀ y, (if y = act x (t + 1) then min (sweepTo x pt t (t + 1)) (sweepTo x pt t (act x (t + 1))) else if y = t + 1 then min (sweepTo x pt t (t + 1)) (sweepTo x pt t (act x (t + 1))) else sweepTo x pt t y) = sweepTo x pt (t + 1) y) := Lib.hid (fun y => by
                            rw [hsw]
                            unfold edgeL
                            by_cases e1 : y = act x (t + 1)
                            · rw [if_pos e1, if_pos (.inl e1)]
                            · rw [if_neg e1]
                              by_cases e2 : y = t + 1
                              · rw [if_pos e2, if_pos (.inr e2)]
                              · rw [if_neg e2, if_neg (fun h => h.elim e1 e2)])
                          generalize act x (t + 1) = z4 at *
                          obtain ⟨cp, fp⟩ := HP.out.cell (p := t + 1) (by omega)
                          obtain ⟨cz, fz⟩ := HP.out.cell (p := z4) hz2
                          have HLE := Lib.hid (fun W => l1Least_any (sweepTo x pt t (t + 1)) (sweepTo x pt t z4) W)
                          generalize hmn : min (sweepTo x pt t (t + 1)) (sweepTo x pt t z4) = mn at *
                          have HP2 := Lib.hid (HP.out.set (p := t + 1) (by omega) mn)
                          obtain ⟨c5, f5⟩ := HP2.out.cell (p := z4) hz2
                          have HP3 := Lib.hid ((HP2.out.set (p := z4) hz2 mn).congr (fun y _ => HED.out y))
                          have HB3 := Lib.hid ((HB.out.setCell (p := ⟨gp, t + 1, none⟩) HGP.out (.int .i64 ((mn : Nat) : Int))).setCell (p := ⟨gp, z4, none⟩) HGP.out (.int .i64 ((mn : Nat) : Int)))
                          generalize sweepTo x pt t (t + 1) = av at *
                          generalize sweepTo x pt t z4 = bv at *
                          have hti : (t : Int) + 1 ≤ (k : Int) := by omega
                          have htn : (t : Int) + 1 < (np : Int) := by have := HNP.out; omega
                          have hzn : (z4 : Int) < (np : Int) := by have := HNP.out; omega
                          have htt : ((t : Int) + 1).toNat = t + 1 := by omega
                          have htp : (0 : Int) ≤ (t : Int) + 1 := by omega
                          clear hsw hmn HED HP2
                          go_wp2
                          go_quiet ((first | (go_at_call 26; exact Calls.quiet_of_same (HATX.out _)) | (go_at_call 25; exact Calls.quiet_of_same (HLE.out _))))
                          have c6 : ((wr.drewN nq).setCell ⟨gp, t + 1, none⟩ (.int .i64 ((mn : Nat) : Int))).cell? ⟨gp, z4, none⟩ = _ := c5
                          have f6 : ((wr.drewN nq).setCell ⟨gp, t + 1, none⟩ (.int .i64 ((mn : Nat) : Int))).frozen? ⟨gp, z4, none⟩ = false := f5
                          go_wp2_with fail
                          refine (HATX.out _).mono ?_
                          rintro e w6 ⟨rfl, rfl⟩
                          go_wp2
                          go_roundg (gk - 1)
                          case measure => have := HQ4.out; omega
                          case rel => exact ⟨t + 1, by have := HQ4.out; omega, by go_num, HP3.out, ⟨HB3.out.os, HB3.out.tape, HB3.out.output, HB3.out.size, HB3.out.block⟩⟩
                        · have hle4 : ¬ (t : Int) + 1 ≤ (k : Int) := by omega
                          obtain rfl : t = k := by have := HQ4.out; omega
                          clear hlt4
                          go_wp2
                          go_roundg q3
                          case measure => omega
                          case rel => exact ⟨j + 1, sweepTo x pt t, by have := HQ3.out; omega, by go_num, HRD2.out, HP.out, HB.out⟩
                    · obtain rfl : j = m := by have := HQ3.out; omega
                      have hrd := HRD.out
                      rw [List.drop_eq_nil_of_le (by rw [HFL.out]; exact Nat.le_refl _)] at hrd
                      have hrd : pt = labs k fs (r + 1) := hrd
                      subst hrd
                      clear HRD hlj
                      go_wp2
                      go_roundg q2
                      case measure => omega
                      case rel => exact ⟨r + 1, by have := HQ2.out; omega, by go_num, HP.out, HB.out⟩
                · have hri : ¬ (r : Int) < (k : Int) := by omega
                  obtain rfl : r = k := by have := HQ2.out; omega
                  clear hlt
                  generalize hlab : labs r fs r = lab at *
                  go_wp2
                  go_loopg [13, 14] r (fun q ov i wr => ∃ (t : Nat) (vs : List Value), q + t = r ∧ i = .int .i64 ((t : Int) + 1) ∧ Lists w.heap.size wr ov vs (orbsTo r fs t).length (lkN (orbsTo r fs t)) ∧ PartAt wr gp r lab ∧ Below w.heap.size w wr)
                  case atStart => exact ⟨0, [], by omega, rfl, Lists.nil _ _ _, HP.out, HB.out⟩
                  case round =>
                    clear HP HB
                    obtain ⟨t, vs, hq, rfl, hls, hp, hb⟩ := hrel
                    generalize wr = wo at *
                    have HQ5 := Lib.hid hq
                    have HLS := Lib.hid hls
                    have HP := Lib.hid hp
                    have HB := Lib.hid hb
                    obtain ⟨oa, oc, rfl, -⟩ := hls.view
                    have hol := orbsTo_len r fs t
                    clear hq hls hp hb
                    by_cases hlt5 : t < r
                    · obtain ⟨q5, rfl⟩ : ∃ q', gk = q' + 1 := ⟨gk - 1, by have := HQ5.out; omega⟩
                      obtain ⟨hyes, hno⟩ := HLB.out (t + 1) (by omega) (by omega)
                      have HYES := Lib.hid hyes
                      have HNO := Lib.hid hno
                      have hti : (t : Int) + 1 ≤ (r : Int) := by omega
                      have HGW : Hid (gp < wo.heap.size) := Lib.hid (by obtain ⟨cs, h1, _⟩ := HP.out; exact h1.lt)
                      clear hyes hno
                      go_wp2
                      go_loopg [15, 16] r (fun q lv i wx => ∃ p : Nat, q + p = r ∧ i = .int .i64 ((p : Int) + 1) ∧ New wo.heap.size wx 3 lv (ints (numsV (selL lab (t + 1) p))) ∧ Below wo.heap.size wo wx)
                      case atStart => exact ⟨0, by omega, rfl, New.nil _ _ _, Below.refl _ _⟩
                      case round =>
                        obtain ⟨p, hq, rfl, hn, hb⟩ := hrel
                        have HQ6 := Lib.hid hq
                        have HN := Lib.hid hn
                        have HBX := Lib.hid hb
                        obtain ⟨la, lc, rfl, -⟩ := hn.own.view
                        have hsl := selL_len lab (t + 1) p
                        have hil : (ints (numsV (selL lab (t + 1) p))).length = (selL lab (t + 1) p).length := by rw [ints_len, numsV_len]
                        have HIL := Lib.hid hil
                        clear hq hn hb
                        by_cases hlt6 : p < r
                        · have HPX := Lib.hid (HP.out.under HBX.out HGW.out)
                          obtain ⟨cp, fp⟩ := HPX.out.cell (p := p + 1) (by omega)
                          have hsu := selL_succ lab (t + 1) p
                          have hpi : (p : Int) + 1 ≤ (r : Int) := by omega
                          have hpn : (p : Int) + 1 < (np : Int) := by have := HNP.out; omega
                          have hpt : ((p : Int) + 1).toNat = p + 1 := by omega
                          have hpp : (0 : Int) ≤ (p : Int) + 1 := by omega
                          by_cases he : lab (p + 1) = t + 1
                          · rw [if_pos he] at hsu
                            have HSU := Lib.hid hsu
                            have heb : (((lab (p + 1) : Nat) : Int) == (t : Int) + 1) = true := by rw [beq_iff_eq]; omega
                            have HSL : Hid ((ints (numsV (selL lab (t + 1) p))).length ≤ 100) := Lib.hid (by rw [hil]; omega)
                            generalize lab (p + 1) = lv at *
                            clear hsu he hil
                            go_wp2_with (at_builtin; refine wpList_app1 rfl (.tmp 105) (.tmp 107) 31 rfl 3 i1 (.int .i64 0) 8 Tryz.underlying31 I1.out.1 I1.out.2.1 I1.out.2.2.1 I1.out.2.2.2 rfl wo.heap.size wo _ (ints (numsV (selL lab (t + 1) p))) rfl HN.out rfl rfl HBX.out.size HBX.out (Nat.le_trans HSL.out (by omega)) (by omega) ?_)
                            intro v7 w7 hn7 _ hb7 _
                            have hpc : ((p : Int) + 1) = ((p + 1 : Nat) : Int) := by omega
                            rw [hpc, numsV_snoc, ← HSU.out] at hn7
                            have HN7 := Lib.hid hn7
                            have HB7 := Lib.hid hb7
                            obtain ⟨ua7, uc7, rfl, -⟩ := hn7.own.view
                            clear hn7 hb7 hpc HN HBX
                            go_wp2
                            go_roundg (gk - 1)
                            case measure => have := HQ6.out; omega
                            case rel => exact ⟨p + 1, by have := HQ6.out; omega, by go_num, HN7.out, HB7.out⟩
                          · rw [if_neg he] at hsu
                            have HSU := Lib.hid hsu
                            have heb : (((lab (p + 1) : Nat) : Int) == (t : Int) + 1) = false := by rw [beq_eq_false_iff_ne]; omega
                            generalize lab (p + 1) = lv at *
                            clear hsu he hil
                            go_wp2
                            go_roundg (gk - 1)
                            case measure => have := HQ6.out; omega
                            case rel => exact ⟨p + 1, by have := HQ6.out; omega, by go_num, by rw [HSU.out]; exact HN.out, HBX.out⟩
                        · have hpi : ¬ (p : Int) + 1 ≤ (r : Int) := by omega
                          obtain rfl : p = r := by have := HQ6.out; omega
                          have HPX := Lib.hid (HP.out.under HBX.out HGW.out)
                          have HLX := Lib.hid (HLS.out.kept HBX.out)
                          have HBW := Lib.hid (HB.out.trans (HBX.out.mono HB.out.size))
                          have HLT : Hid (∀ i g, i < (orbsTo p fs t).length → (vs.getD i nilV).ownBlock = some g → g < wo.heap.size) := Lib.hid (fun i g hi hg => (HLS.out.inner i hi).lt g hg)
                          have HWS := Lib.hid HB.out.size
                          by_cases hle : leastIn p fs (t + 1)
                          · have hs6 := HYES.out hle
                            have HE := Lib.hid (orbsTo_yes hle)
                            have hmem : 0 < (incL p (orbF p fs (t + 1))).length := List.length_pos_of_mem (mem_incL.2 ⟨⟨by omega, by omega⟩, (orb_spec HG.out (by omega) (by omega)).self⟩)
                            rw [hs6] at HN hil ⊢
                            rw [hil]
                            have hlp : (0 : Int) < (((incL p (orbF p fs (t + 1))).length : Nat) : Int) := by omega
                            rw [hil] at HN
                            generalize incL p (orbF p fs (t + 1)) = il at *
                            clear hs6 hmem hle hil hsl HIL
                            go_wp2_with (at_builtin; refine wpList_app1 rfl (.tmp 112) (.tmp 114) 27 rfl 31 i0 (.slice none 0 0) 24 Tryz.underlying27 I0.out.1 I0.out.2.1 I0.out.2.2.1 I0.out.2.2.2 rfl w.heap.size w _ vs rfl HLX.out.newN rfl HN.out.own.one HBW.out.size HBW.out (by rw [HLX.out.len]; omega) (by omega) ?_)
                            intro v7 w7 hn7 hk7 hb7 _
                            have HL7 := Lib.hid ((HLX.out.more6 HN.out HWS.out HLT.out hn7 hk7).congr (lkN_snoc (orbsTo p fs t) il))
                            have HP7 : Hid (PartAt w7 gp p lab) := Lib.hid (by
                              obtain ⟨cs, h1, h2⟩ := HPX.out
                              exact ⟨cs, hk7.row h1 (HLX.out.newN.apartRow h1 (by decide)), h2⟩)
                            have HB7 := Lib.hid hb7
                            obtain ⟨ua7, uc7, rfl, -⟩ := HL7.out.view
                            clear hn7 hk7 hb7
                            go_wp2
                            go_roundg q5
                            case measure => omega
                            case rel => exact ⟨t + 1, _, by have := HQ5.out; omega, by go_num, by rw [HE.out, List.length_append]; exact HL7.out, HP7.out, HB7.out⟩
                          · have hs6 := HNO.out hle
                            have HE := Lib.hid (orbsTo_no hle)
                            rw [hs6] at HN hil ⊢
                            have hz6 : (ints (numsV [])).length = 0 := rfl
                            rw [hz6] at HN ⊢
                            clear hs6 hle hil hsl HIL hz6
                            go_wp2
                            go_roundg q5
                            case measure => omega
                            case rel => exact ⟨t + 1, vs, by have := HQ5.out; omega, by go_num, by rw [HE.out]; exact HLX.out, HPX.out, HBW.out⟩
                    · have hti : ¬ (t : Int) + 1 ≤ (r : Int) := by omega
                      obtain rfl : t = r := by have := HQ5.out; omega
                      clear hlt5 hol
                      go_wp2
                      go_ret2
                      exact ⟨_, rfl, ⟨vs, HLS.out⟩, HB.out⟩
        · have hrk : rowsB (k : Int) L = false := by rw [← listB_at2, hb, decide_eq_true hm0, decide_eq_false hz]; rfl
          rw [hrk] at hO
          rw [orL_no hO, hO]
          have hne : (((firstN L : Nat) : Int) != (k : Int)) = true := by simpa using (by omega : ¬ ((firstN L : Nat) : Int) = k)
          rw [hb, hm] at HR
          rw [hm] at HT ⊢
          have HC0 := Lib.hid c0
          generalize firstN L = z at *
          clear h hl hs hb hm0 hm hrk hO hz hn hst c0
          go_enter Tryz.func7, Tryz.ntmps7
          go_wp2_with fail
          refine (HIN.out _).mono ?_
          rintro e w1 ⟨rfl, rfl⟩
          go_wp2_with fail
          refine (HR.out _ HT.out).mono ?_
          rintro e w2 ⟨rfl, hb2⟩
          have c2 := (hb2.cell (p := ⟨g, off, none⟩) hgl).trans HC0.out
          go_wp2
          go_ret2
          exact ⟨_, [], rfl, Lists.nil _ _ _, hb2⟩
      · have hrk : rowsB (k : Int) L = true := by rw [← listB_at2, hb, decide_eq_false hm0]; rfl
        have hmp : ¬ (0 : Int) < (m : Int) := by omega
        obtain ⟨a, cap, rfl, -, -⟩ := id h
        rw [hrk] at hO
        rw [orL_yes hO, hO, Int.toNat_natCast]
        have hrows := rowsB_rows hrk
        have hfl : (rF L).length = m := by rw [rF_len]; exact hm
        have hm8 : m ≤ 800 := by rw [← hm]; exact rowsB_len hrk
        have hmt : Txts w _ (rowsL k (rF L)) := Txts.rows h hrk
        rw [hb, hm] at HR
        rw [hm] at HT ⊢
        obtain ⟨xa, xc, hxe, -, hxa⟩ := hmt
        have HA : Hid (0 < m → ∃ g off, xa = some ⟨g, off, none⟩ ∧ g < w.heap.size ∧ ∀ j (hj : j < (rF L).length), w.cell? ⟨g, off + j, none⟩ = some (.string (strOf k (rF L)[j]))) := Lib.hid (fun h0 => by
          obtain ⟨g', o', e', hg', hc'⟩ := hxa (by rw [rowsL_len]; omega)
          refine ⟨g', o', e', hg', fun j hj => ?_⟩
          rw [hc' j (by rw [rowsL_len]; exact hj), rowsL, List.getD_eq_getElem?_getD, List.getElem?_map, List.getElem?_eq_getElem hj, Option.map_some, Option.getD_some, txt_rowL])
        have hxe2 := hxe
        injection hxe2 with hx1 hx2 hx3
        subst hx1
        have h3 : 3 ≤ k := by omega
        have h8 : k ≤ 8 := by omega
        have hk3 : (3 : Int) ≤ (k : Int) := by omega
        have hk8 : (k : Int) ≤ 8 := by omega
        have hmi : (m : Int) ≤ 800 := by omega
        have HLB := Lib.hid (fun t (h1 : 1 ≤ t) (h2 : t ≤ k) => And.intro (selL_yes hrows h1 h2) (selL_no hrows h1 h2))
        have HG := Lib.hid hrows
        have HFL := Lib.hid hfl
        generalize firstN L = z at *
        generalize rF L = fs at *
        obtain ⟨np, hnp⟩ : ∃ np, np = k + 1 := ⟨_, rfl⟩
        have hnpi : (k : Int) + 1 = (np : Int) := by omega
        have hnp9 : (np : Int) ≤ 9 := by omega
        have HNP := Lib.hid hnp
        have HNPI := Lib.hid hnpi
        obtain ⟨i1, hi1, hy0, hy1, hy2⟩ := info_parts infoInt
        have I1 := Lib.hid (⟨hi1, hy0, hy1, hy2⟩ : _ ∧ _ ∧ _ ∧ _)
        obtain ⟨i0, hi0, hz0, hz1, hz2⟩ := info_parts infoInts
        have I0 := Lib.hid (⟨hi0, hz0, hz1, hz2⟩ : _ ∧ _ ∧ _ ∧ _)
        clear h hl hs hb hm0 hm hrk hO hn hst hrows hfl hxe hx2 hx3 hxa hi0 hz0 hz1 hz2 hi1 hy0 hy1 hy2 hnp
        go_enter Tryz.func7, Tryz.ntmps7
        go_wp2_with fail
        refine (HIN.out _).mono ?_
        rintro e w1 ⟨rfl, rfl⟩
        go_wp2_with fail
        refine (HR.out _ HT.out).mono ?_
        rintro e w2 ⟨rfl, hb2⟩
        have HB2 := Lib.hid hb2
        clear hb2
        go_wp2_with (first | (at_make; refine wpList_make_row _ rfl _ _ 31 rfl 3 i1 (.int .i64 0) Tryz.underlying31 I1.out.1 I1.out.2.1 I1.out.2.2.1 rfl .i64 .i64 np (by rw [← HNPI.out]; rfl) (by rw [← HNPI.out]; rfl) (by rw [I1.out.2.2.2]; omega) (by omega) ?_) | fail)
        have HP3 := Lib.hid (PartAt.made w2 k np HNP.out)
        have HB3 := Lib.hid (HB2.out.alloc HB2.out.size (.cells (madeCells #[.int .i64 0] np) 3))
        have HGP : Hid (w.heap.size ≤ w2.heap.size) := Lib.hid HB2.out.size
        clear HB2
        go_wp2
        generalize w2.heap.size = gp at *
        go_loopg [43] np (fun q i wr => ∃ j : Nat, q + j = np ∧ i = .int .i64 j ∧ PartAt wr gp k (fun p => if p < j then p else 0) ∧ Below w.heap.size w wr)
        case atStart => exact ⟨0, by omega, rfl, HP3.out.congr (fun x hx => by simp), HB3.out⟩
        case round =>
          clear HP3 HB3
          obtain ⟨j, hq, rfl, hp, hb⟩ := hrel
          have HQ := Lib.hid hq
          have HP := Lib.hid hp
          have HB := Lib.hid hb
          clear hq hp hb
          by_cases hlt : j < np
          · have hjk : j ≤ k := by have := HNP.out; omega
            obtain ⟨c1, f1⟩ := HP.out.cell hjk
            have hji : (j : Int) < (np : Int) := by omega
            have HP2 := Lib.hid ((HP.out.set hjk j).congr (q := fun p => if p < j + 1 then p else 0) (fun x hx => by
              by_cases e : x = j
              · simp [e]
              · rw [if_neg e]
                by_cases h : x < j
                · rw [if_pos h, if_pos (by omega)]
                · rw [if_neg h, if_neg (by omega)]))
            have HB2 := Lib.hid (HB.out.setCell (p := ⟨gp, j, none⟩) HGP.out (.int .i64 ((j : Nat) : Int)))
            clear HP HB
            go_wp2
            go_roundg (gk - 1)
            case measure => have := HQ.out; omega
            case rel => exact ⟨j + 1, by have := HQ.out; omega, by go_num, HP2.out, HB2.out⟩
          · obtain rfl : np = j := by have := HQ.out; omega
            have HP0 : Hid (PartAt wr gp k (labs k fs 0)) := Lib.hid (HP.out.congr (fun x hx => by rw [if_pos (by have := HNP.out; omega)]; rfl))
            clear HP hlt HQ
            go_wp2
            go_loopg [8] k (fun q i wr => ∃ r : Nat, q + r = k ∧ i = .int .i64 r ∧ PartAt wr gp k (labs k fs r) ∧ Below w.heap.size w wr)
            case atStart => exact ⟨0, by omega, rfl, HP0.out, HB.out⟩
            case round =>
              clear HP0 HB
              obtain ⟨r, hq, rfl, hp, hb⟩ := hrel
              have HQ2 := Lib.hid hq
              have HP := Lib.hid hp
              have HB := Lib.hid hb
              clear hq hp hb
              by_cases hlt : r < k
              · obtain ⟨q2, rfl⟩ : ∃ q', gk = q' + 1 := ⟨gk - 1, by have := HQ2.out; omega⟩
                have hri : (r : Int) < (k : Int) := by omega
                go_wp2
                go_loopg [58] m (fun q i wr => ∃ (j : Nat) (pt : Nat → Nat), q + j = m ∧ i = .int .i64 j ∧ roundL k (fs.drop j) pt = labs k fs (r + 1) ∧ PartAt wr gp k pt ∧ Below w.heap.size w wr)
                case atStart => exact ⟨0, labs k fs r, by omega, rfl, rfl, HP.out, HB.out⟩
                case round =>
                  clear HP HB
                  obtain ⟨j, pt, hq, rfl, hrd, hp, hb⟩ := hrel
                  have HQ3 := Lib.hid hq
                  have HRD := Lib.hid hrd
                  have HP := Lib.hid hp
                  have HB := Lib.hid hb
                  clear hq hrd hp hb
                  by_cases hlj : j < m
                  · exact absurd hlj (by omega)
                  · obtain rfl : j = m := by have := HQ3.out; omega
                    have hrd := HRD.out
                    rw [List.drop_eq_nil_of_le (by rw [HFL.out]; exact Nat.le_refl _)] at hrd
                    have hrd : pt = labs k fs (r + 1) := hrd
                    subst hrd
                    clear HRD hlj
                    go_wp2
                    go_roundg q2
                    case measure => omega
                    case rel => exact ⟨r + 1, by have := HQ2.out; omega, by go_num, HP.out, HB.out⟩
              · have hri : ¬ (r : Int) < (k : Int) := by omega
                obtain rfl : r = k := by have := HQ2.out; omega
                clear hlt
                generalize hlab : labs r fs r = lab at *
                go_wp2
                go_loopg [13, 14] r (fun q ov i wr => ∃ (t : Nat) (vs : List Value), q + t = r ∧ i = .int .i64 ((t : Int) + 1) ∧ Lists w.heap.size wr ov vs (orbsTo r fs t).length (lkN (orbsTo r fs t)) ∧ PartAt wr gp r lab ∧ Below w.heap.size w wr)
                case atStart => exact ⟨0, [], by omega, rfl, Lists.nil _ _ _, HP.out, HB.out⟩
                case round =>
                  clear HP HB
                  obtain ⟨t, vs, hq, rfl, hls, hp, hb⟩ := hrel
                  generalize wr = wo at *
                  have HQ5 := Lib.hid hq
                  have HLS := Lib.hid hls
                  have HP := Lib.hid hp
                  have HB := Lib.hid hb
                  obtain ⟨oa, oc, rfl, -⟩ := hls.view
                  have hol := orbsTo_len r fs t
                  clear hq hls hp hb
                  by_cases hlt5 : t < r
                  · obtain ⟨q5, rfl⟩ : ∃ q', gk = q' + 1 := ⟨gk - 1, by have := HQ5.out; omega⟩
                    obtain ⟨hyes, hno⟩ := HLB.out (t + 1) (by omega) (by omega)
                    have HYES := Lib.hid hyes
                    have HNO := Lib.hid hno
                    have hti : (t : Int) + 1 ≤ (r : Int) := by omega
                    have HGW : Hid (gp < wo.heap.size) := Lib.hid (by obtain ⟨cs, h1, _⟩ := HP.out; exact h1.lt)
                    clear hyes hno
                    go_wp2
                    go_loopg [15, 16] r (fun q lv i wx => ∃ p : Nat, q + p = r ∧ i = .int .i64 ((p : Int) + 1) ∧ New wo.heap.size wx 3 lv (ints (numsV (selL lab (t + 1) p))) ∧ Below wo.heap.size wo wx)
                    case atStart => exact ⟨0, by omega, rfl, New.nil _ _ _, Below.refl _ _⟩
                    case round =>
                      obtain ⟨p, hq, rfl, hn, hb⟩ := hrel
                      have HQ6 := Lib.hid hq
                      have HN := Lib.hid hn
                      have HBX := Lib.hid hb
                      obtain ⟨la, lc, rfl, -⟩ := hn.own.view
                      have hsl := selL_len lab (t + 1) p
                      have hil : (ints (numsV (selL lab (t + 1) p))).length = (selL lab (t + 1) p).length := by rw [ints_len, numsV_len]
                      have HIL := Lib.hid hil
                      clear hq hn hb
                      by_cases hlt6 : p < r
                      · have HPX := Lib.hid (HP.out.under HBX.out HGW.out)
                        obtain ⟨cp, fp⟩ := HPX.out.cell (p := p + 1) (by omega)
                        have hsu := selL_succ lab (t + 1) p
                        have hpi : (p : Int) + 1 ≤ (r : Int) := by omega
                        have hpn : (p : Int) + 1 < (np : Int) := by have := HNP.out; omega
                        have hpt : ((p : Int) + 1).toNat = p + 1 := by omega
                        have hpp : (0 : Int) ≤ (p : Int) + 1 := by omega
                        by_cases he : lab (p + 1) = t + 1
                        · rw [if_pos he] at hsu
                          have HSU := Lib.hid hsu
                          have heb : (((lab (p + 1) : Nat) : Int) == (t : Int) + 1) = true := by rw [beq_iff_eq]; omega
                          have HSL : Hid ((ints (numsV (selL lab (t + 1) p))).length ≤ 100) := Lib.hid (by rw [hil]; omega)
                          generalize lab (p + 1) = lv at *
                          clear hsu he hil
                          go_wp2_with (at_builtin; refine wpList_app1 rfl (.tmp 105) (.tmp 107) 31 rfl 3 i1 (.int .i64 0) 8 Tryz.underlying31 I1.out.1 I1.out.2.1 I1.out.2.2.1 I1.out.2.2.2 rfl wo.heap.size wo _ (ints (numsV (selL lab (t + 1) p))) rfl HN.out rfl rfl HBX.out.size HBX.out (Nat.le_trans HSL.out (by omega)) (by omega) ?_)
                          intro v7 w7 hn7 _ hb7 _
                          have hpc : ((p : Int) + 1) = ((p + 1 : Nat) : Int) := by omega
                          rw [hpc, numsV_snoc, ← HSU.out] at hn7
                          have HN7 := Lib.hid hn7
                          have HB7 := Lib.hid hb7
                          obtain ⟨ua7, uc7, rfl, -⟩ := hn7.own.view
                          clear hn7 hb7 hpc HN HBX
                          go_wp2
                          go_roundg (gk - 1)
                          case measure => have := HQ6.out; omega
                          case rel => exact ⟨p + 1, by have := HQ6.out; omega, by go_num, HN7.out, HB7.out⟩
                        · rw [if_neg he] at hsu
                          have HSU := Lib.hid hsu
                          have heb : (((lab (p + 1) : Nat) : Int) == (t : Int) + 1) = false := by rw [beq_eq_false_iff_ne]; omega
                          generalize lab (p + 1) = lv at *
                          clear hsu he hil
                          go_wp2
                          go_roundg (gk - 1)
                          case measure => have := HQ6.out; omega
                          case rel => exact ⟨p + 1, by have := HQ6.out; omega, by go_num, by rw [HSU.out]; exact HN.out, HBX.out⟩
                      · have hpi : ¬ (p : Int) + 1 ≤ (r : Int) := by omega
                        obtain rfl : p = r := by have := HQ6.out; omega
                        have HPX := Lib.hid (HP.out.under HBX.out HGW.out)
                        have HLX := Lib.hid (HLS.out.kept HBX.out)
                        have HBW := Lib.hid (HB.out.trans (HBX.out.mono HB.out.size))
                        have HLT : Hid (∀ i g, i < (orbsTo p fs t).length → (vs.getD i nilV).ownBlock = some g → g < wo.heap.size) := Lib.hid (fun i g hi hg => (HLS.out.inner i hi).lt g hg)
                        have HWS := Lib.hid HB.out.size
                        by_cases hle : leastIn p fs (t + 1)
                        · have hs6 := HYES.out hle
                          have HE := Lib.hid (orbsTo_yes hle)
                          have hmem : 0 < (incL p (orbF p fs (t + 1))).length := List.length_pos_of_mem (mem_incL.2 ⟨⟨by omega, by omega⟩, (orb_spec HG.out (by omega) (by omega)).self⟩)
                          rw [hs6] at HN hil ⊢
                          rw [hil]
                          have hlp : (0 : Int) < (((incL p (orbF p fs (t + 1))).length : Nat) : Int) := by omega
                          rw [hil] at HN
                          generalize incL p (orbF p fs (t + 1)) = il at *
                          clear hs6 hmem hle hil hsl HIL
                          go_wp2_with (at_builtin; refine wpList_app1 rfl (.tmp 112) (.tmp 114) 27 rfl 31 i0 (.slice none 0 0) 24 Tryz.underlying27 I0.out.1 I0.out.2.1 I0.out.2.2.1 I0.out.2.2.2 rfl w.heap.size w _ vs rfl HLX.out.newN rfl HN.out.own.one HBW.out.size HBW.out (by rw [HLX.out.len]; omega) (by omega) ?_)
                          intro v7 w7 hn7 hk7 hb7 _
                          have HL7 := Lib.hid ((HLX.out.more6 HN.out HWS.out HLT.out hn7 hk7).congr (lkN_snoc (orbsTo p fs t) il))
                          have HP7 : Hid (PartAt w7 gp p lab) := Lib.hid (by
                            obtain ⟨cs, h1, h2⟩ := HPX.out
                            exact ⟨cs, hk7.row h1 (HLX.out.newN.apartRow h1 (by decide)), h2⟩)
                          have HB7 := Lib.hid hb7
                          obtain ⟨ua7, uc7, rfl, -⟩ := HL7.out.view
                          clear hn7 hk7 hb7
                          go_wp2
                          go_roundg q5
                          case measure => omega
                          case rel => exact ⟨t + 1, _, by have := HQ5.out; omega, by go_num, by rw [HE.out, List.length_append]; exact HL7.out, HP7.out, HB7.out⟩
                        · have hs6 := HNO.out hle
                          have HE := Lib.hid (orbsTo_no hle)
                          rw [hs6] at HN hil ⊢
                          have hz6 : (ints (numsV [])).length = 0 := rfl
                          rw [hz6] at HN ⊢
                          clear hs6 hle hil hsl HIL hz6
                          go_wp2
                          go_roundg q5
                          case measure => omega
                          case rel => exact ⟨t + 1, vs, by have := HQ5.out; omega, by go_num, by rw [HE.out]; exact HLX.out, HPX.out, HBW.out⟩
                  · have hti : ¬ (t : Int) + 1 ≤ (r : Int) := by omega
                    obtain rfl : t = r := by have := HQ5.out; omega
                    clear hlt5 hol
                    go_wp2
                    go_ret2
                    exact ⟨_, rfl, ⟨vs, HLS.out⟩, HB.out⟩
    · have hb : listB L = false := by simpa using hb
      have hrk : rowsB (k : Int) L = false := by rw [← listB_at2, hb]; rfl
      rw [hrk] at hO
      rw [orL_no hO, hO]
      rw [hb] at HR
      clear h hl hs hb hm hrk hO hn hst
      go_enter Tryz.func7, Tryz.ntmps7
      go_wp2_with fail
      refine (HIN.out _).mono ?_
      rintro e w1 ⟨rfl, rfl⟩
      go_wp2_with fail
      refine (HR.out _ HT.out).mono ?_
      rintro e w2 ⟨rfl, hb2⟩
      go_wp2
      go_ret2
      exact ⟨_, [], rfl, Lists.nil _ _ _, hb2⟩
  · have hgs : (decide (3 ≤ n) && decide (n ≤ 8)) = false := by
      by_cases h1 : 3 ≤ n
      · rw [decide_eq_false (show ¬ n ≤ 8 from fun h => hn ⟨h1, h⟩)]; simp
      · rw [decide_eq_false h1]; simp
    have hO : orB n L = false := by unfold orB; rw [hgs, Bool.and_false]
    rw [orL_no hO, hO]
    rw [hgs] at HIN
    clear h hl hs hm hn hgs hO HT HR
    go_enter Tryz.func7, Tryz.ntmps7
    go_wp2_with fail
    refine (HIN.out _).mono ?_
    rintro e w1 ⟨rfl, rfl⟩
    go_wp2
    go_ret2
    exact ⟨_, [], rfl, Lists.nil _ _ _, Below.refl _ _⟩
end Go.Proofs.YtapcfojnljnoaaaGreat
