/- All changes in the program. -/
import Derived.Test.YtkeighlcdnfjcaaB14
import Derived.Test.YtkeighlcdnfjcaaQ5
namespace Go.Proofs.Ytkeighlcdnfjcaa
open Go.RowKit

/-- texts as elements -/
def strs (ls : List (List Nat)) : List Value := ls.map fun l => .string (txt l)
theorem strs_len (ls : List (List Nat)) : (strs ls).length = ls.length := by simp [strs]
theorem strs_snoc (ls : List (List Nat)) (l : List Nat) : strs ls ++ [.string (txt l)] = strs (ls ++ [l]) := by simp [strs]
theorem strs_app (ls rs : List (List Nat)) : strs ls ++ strs rs = strs (ls ++ rs) := by simp [strs]
theorem strs_one (ls : List (List Nat)) : ∀ u ∈ strs ls, u.oneCell' = true := by
  intro u hu
  simp only [strs, List.mem_map] at hu
  obtain ⟨l, _, rfl⟩ := hu
  rfl

theorem aft_succ (n k len last : Nat) : aft n (k + 1) len last = (if (n - last) % 2 = 0 ∧ len < n then [[]] else []) ++ stp n (fun p => aft n k (len + 1) p) n (last + 1) := rfl
theorem rune_text (p : Nat) (hp : p ≤ 8) (w : World) : (convert 21 9 (.int .i32 (48 + p))).run Try.prog w = .ok (.string (txt [48 + p])) w := by
  have : p = 0 ∨ p = 1 ∨ p = 2 ∨ p = 3 ∨ p = 4 ∨ p = 5 ∨ p = 6 ∨ p = 7 ∨ p = 8 := by omega
  rw [run_convert_int_string w _ _ _ _ (by kernel_rfl) Try.underlying9]
  rcases this with rfl | rfl | rfl | rfl | rfl | rfl | rfl | rfl | rfl <;> rfl

def After (xs : List (List Nat)) (w : World) (e : Ending) (w' : World) : Prop := ∃ v, e = .returned v ∧ New w.heap.size w' 9 v (strs xs) ∧ Below w.heap.size w w'

set_option maxRecDepth 100000 in
set_option maxHeartbeats 1000000 in
theorem changesAfter_any (n : Nat) (h8 : n ≤ 8) : ∀ (k len last : Nat) (L : List Nat), last ≤ n → n < last + k → L.length = len → len ≤ last → (aft n k len last).length ≤ 100 → ∀ (x : Int), x = last + 1 → ∀ w,
    Calls Try.prog 64 #[.int .i64 n, .string (txt L), .int .i64 x] w (After ((aft n k len last).map (L ++ ·)) w) := by
  intro k
  induction k with
  | zero => intro len last L h1 h2; omega
  | succ k ih =>
    intro len last L h1 h2 hL hlen8 hlen x hx w
    subst hx
    have h8' : (n : Int) ≤ 8 := by omega
    have hsz : (txt L).size = len := by rw [txt_size]; exact hL
    obtain ⟨i0, hi0, hz0, hz1, hz2⟩ := info_parts infoText
    have I0 := Lib.hid (⟨hi0, hz0, hz1, hz2⟩ : _ ∧ _ ∧ _ ∧ _)
    have IH := Lib.hid ih
    clear ih hi0 hz0 hz1 hz2
    have HL := Lib.hid hL
    have hln : (last : Int) ≤ n := by omega
    have hlen9 : (len : Int) ≤ 8 := by omega
    clear hL
    by_cases hyes : (n - last) % 2 = 0 ∧ len < n
    · have hev : (((n : Int) + 1 - ((last : Int) + 1)) % 2 == 0) = true := by simp; omega
      have hln2 : ((txt L).size : Int) < n := by omega
      have HACC := Lib.hid (show [[]] ++ stp n (fun p => aft n k (len + 1) p) n (last + 1) = aft n (k + 1) len last by rw [aft_succ, if_pos hyes])
      clear hyes
      go_enter Try.func64, Try.ntmps64
      go_wp2_with (at_builtin; refine wpList_app1 rfl (.tmp 22) (.tmp 24) 38 rfl 9 i0 (.string ⟨#[]⟩) 16 Try.underlying38 I0.out.1 I0.out.2.1 I0.out.2.2.1 I0.out.2.2.2 rfl w.heap.size w _ [] rfl (New.nil _ _ _) rfl rfl (Nat.le_refl _) (Below.refl _ _) (by simp) (by omega) ?_)
      intro v1 w1 hn1 _ hb1 _
      have HN0 := Lib.hid (show New w.heap.size w1 9 v1 (strs ([[]].map (L ++ ·))) by simpa [strs] using hn1)
      have HB0 := Lib.hid hb1
      clear hn1 hb1
      go_wp2
      go_loopg [7, 8, 9] n (fun q v i _ wr => ∃ (p : Nat) (acc : List (List Nat)), last + 1 ≤ p ∧ n + 1 ≤ q + p ∧ i = .int .i64 p ∧ acc ++ stp n (fun p => aft n k (len + 1) p) q p = aft n (k + 1) len last ∧ New w.heap.size wr 9 v (strs (acc.map (L ++ ·))) ∧ Below w.heap.size w wr)
      case atStart => exact ⟨last + 1, [[]], Nat.le_refl _, by omega, by simp, HACC.out, HN0.out, HB0.out⟩
      case round =>
        clear HACC HN0 HB0
        obtain ⟨p, acc, hp1, hq, rfl, hacc, hnew, hbel⟩ := hrel
        have HA := Lib.hid hacc
        have HN := Lib.hid hnew
        have HB := Lib.hid hbel
        clear hacc hnew hbel
        by_cases hpn : p ≤ n
        · obtain ⟨q, rfl⟩ : ∃ q, gk = q + 1 := ⟨gk - 1, by omega⟩
          have hpi : (p : Int) ≤ n := by omega
          have hm := HA.out
          unfold stp at hm
          rw [if_pos hpn] at hm
          have hlens := congrArg List.length hm
          simp only [List.length_append, List.length_map] at hlens
          have hl1 : (aft n k (len + 1) p).length ≤ 100 := by omega
          have hl2 : acc.length + (aft n k (len + 1) p).length ≤ 100 := by omega
          have HM := Lib.hid hm
          have HREC := Lib.hid (IH.out (len + 1) p (L ++ [48 + p]) hpn (by omega) (by simp [HL.out]) (by omega) hl1 ((p : Int) + 1) rfl)
          have hconv := fun W => rune_text p (by omega) W
          have htx : txt L ++ txt [48 + p] = txt (L ++ [48 + p]) := (txt_app _ _).symm
          have hU : (txt [48 + p]).size = 1 := txt_size _
          clear hm HA hlens
          go_wp2_with fail
          refine (HREC.out _).mono ?_
          rintro e w2 ⟨v2, rfl, hn2, hb2⟩
          have hmap : (aft n k (len + 1) p).map ((L ++ [48 + p]) ++ ·) = ((aft n k (len + 1) p).map ((48 + p) :: ·)).map (L ++ ·) := by
            rw [List.map_map]
            congr 1
            funext t
            simp
          rw [hmap] at hn2
          have hl3 : (((aft n k (len + 1) p).map ((48 + p) :: ·)).map (L ++ ·)).length = (aft n k (len + 1) p).length := by simp
          have HM2 := Lib.hid (show (acc ++ (aft n k (len + 1) p).map ((48 + p) :: ·)) ++ stp n (fun p => aft n k (len + 1) p) q (p + 2) = aft n (k + 1) len last by rw [List.append_assoc]; exact HM.out)
          generalize (aft n k (len + 1) p).map ((48 + p) :: ·) = sub at *
          have hrel2 : ∀ v3 w3, New w.heap.size w3 9 v3 (strs ((acc ++ sub).map (L ++ ·))) → Below w.heap.size w w3 → (∃ (p' : Nat) (acc : List (List Nat)), last + 1 ≤ p' ∧ n + 1 ≤ q + p' ∧ Value.int .i64 ((p : Int) + 2) = .int .i64 p' ∧ acc ++ stp n (fun p => aft n k (len + 1) p) q p' = aft n (k + 1) len last ∧ New w.heap.size w3 9 v3 (strs (acc.map (L ++ ·))) ∧ Below w.heap.size w w3) := fun v3 w3 h1 h2 => ⟨p + 2, acc ++ sub, by omega, by omega, by go_num, HM2.out, h1, h2⟩
          have HREL := Lib.hid hrel2
          have hB2 := HB.out.trans (hb2.mono HB.out.size)
          have hN2 := HN.out.kept hb2
          have hs2 : w.heap.size ≤ w2.heap.size := hB2.size
          clear hrel2 hmap HM HREC hconv htx
          rcases hn2.own.shape with ⟨rfl, hnil⟩ | ⟨g, cap, rfl, hcap⟩
          · have hsub : sub = [] := by cases sub with
              | nil => rfl
              | cons => simp [strs] at hnil
            subst hsub
            have HN2 := Lib.hid hN2
            have HB2 := Lib.hid hB2
            clear hnil hn2 hb2 hN2 hB2 hl3
            go_wp2_with (at_builtin; refine wpList_app0 rfl (.tmp 38) (.tmp 43) 38 rfl 9 i0 Try.underlying38 I0.out.1 w.heap.size _ _ rfl HN2.out rfl ?_)
            go_roundg q
            case measure => omega
            case rel => exact HREL.out _ _ (by rw [List.append_nil]; exact HN2.out) HB2.out
          · have HN2 := Lib.hid hN2
            have HB2 := Lib.hid hB2
            have HV := Lib.hid hn2.own
            have hcl : (strs (sub.map (L ++ ·))).length = (aft n k (len + 1) p).length := by rw [strs_len, hl3]
            have HCL := Lib.hid hcl
            clear hn2 hb2 hN2 hB2 hl3 hcap hcl
            go_wp2_with (at_builtin; refine wpList_appN rfl (.tmp 38) (.tmp 43) 38 rfl 9 i0 (.string ⟨#[]⟩) 16 Try.underlying38 I0.out.1 I0.out.2.1 I0.out.2.2.1 I0.out.2.2.2 rfl w.heap.size w _ _ rfl HN2.out ⟨g, 0, none⟩ _ _ (strs (sub.map (L ++ ·))) rfl rfl ?d1 (strs_one _) hs2 HB2.out ?d3 (by omega) ?_)
            case d1 =>
              intro j u hj
              rw [show (⟨g, 0, none⟩ : Addr).add j = ⟨g, j, none⟩ from by unfold Addr.add; split <;> simp_all]
              exact HV.out.cell j u hj
            case d3 => rw [HCL.out, strs_len, List.length_map]; omega
            intro v3 w3 hn3 _ hb3 _ _
            rw [strs_app, ← List.map_append] at hn3
            have HN3 := Lib.hid hn3
            have HB3 := Lib.hid hb3
            clear hn3 hb3
            go_wp2
            go_roundg q
            case measure => omega
            case rel => exact HREL.out _ _ HN3.out HB3.out
        · have hpi : ¬ (p : Int) ≤ n := by omega
          have hm := HA.out
          rw [stp_end n _ _ _ hpn, List.append_nil] at hm
          go_wp2
          go_ret
          exact ⟨_, rfl, by rw [← hm]; exact HN.out, HB.out⟩
    · have HACC := Lib.hid (show [] ++ stp n (fun p => aft n k (len + 1) p) n (last + 1) = aft n (k + 1) len last by rw [aft_succ, if_neg hyes])
      have HN0 := Lib.hid (New.nil w.heap.size w 9)
      have HB0 := Lib.hid (Below.refl w.heap.size w)
      by_cases he : (n - last) % 2 = 0
      · have hev : (((n : Int) + 1 - ((last : Int) + 1)) % 2 == 0) = true := by simp; omega
        have hln2 : ¬ ((txt L).size : Int) < n := by omega
        have hnl : n ≤ last := by omega
        clear hyes he
        go_enter Try.func64, Try.ntmps64
        go_wp2
        go_loopg [7, 8, 9] n (fun q v i _ wr => ∃ (p : Nat) (acc : List (List Nat)), last + 1 ≤ p ∧ n + 1 ≤ q + p ∧ i = .int .i64 p ∧ acc ++ stp n (fun p => aft n k (len + 1) p) q p = aft n (k + 1) len last ∧ New w.heap.size wr 9 v (strs (acc.map (L ++ ·))) ∧ Below w.heap.size w wr)
        case atStart => exact ⟨last + 1, [], Nat.le_refl _, by omega, by simp, HACC.out, HN0.out, HB0.out⟩
        case round =>
          clear HACC HN0 HB0
          obtain ⟨p, acc, hp1, hq, rfl, hacc, hnew, hbel⟩ := hrel
          have HA := Lib.hid hacc
          have HN := Lib.hid hnew
          have HB := Lib.hid hbel
          clear hacc hnew hbel
          by_cases hpn : p ≤ n
          · exact absurd hpn (by omega)
          · have hpi : ¬ (p : Int) ≤ n := by omega
            have hm := HA.out
            rw [stp_end n _ _ _ hpn, List.append_nil] at hm
            go_wp2
            go_ret
            exact ⟨_, rfl, by rw [← hm]; exact HN.out, HB.out⟩
      · have hev : (((n : Int) + 1 - ((last : Int) + 1)) % 2 == 0) = false := by simp; omega
        clear hyes he
        go_enter Try.func64, Try.ntmps64
        go_wp2
        go_loopg [7, 8, 9] n (fun q v i _ wr => ∃ (p : Nat) (acc : List (List Nat)), last + 1 ≤ p ∧ n + 1 ≤ q + p ∧ i = .int .i64 p ∧ acc ++ stp n (fun p => aft n k (len + 1) p) q p = aft n (k + 1) len last ∧ New w.heap.size wr 9 v (strs (acc.map (L ++ ·))) ∧ Below w.heap.size w wr)
        case atStart => exact ⟨last + 1, [], Nat.le_refl _, by omega, by simp, HACC.out, HN0.out, HB0.out⟩
        case round =>
          clear HACC HN0 HB0
          obtain ⟨p, acc, hp1, hq, rfl, hacc, hnew, hbel⟩ := hrel
          have HA := Lib.hid hacc
          have HN := Lib.hid hnew
          have HB := Lib.hid hbel
          clear hacc hnew hbel
          by_cases hpn : p ≤ n
          · obtain ⟨q, rfl⟩ : ∃ q, gk = q + 1 := ⟨gk - 1, by omega⟩
            have hpi : (p : Int) ≤ n := by omega
            have hm := HA.out
            unfold stp at hm
            rw [if_pos hpn] at hm
            have hlens := congrArg List.length hm
            simp only [List.length_append, List.length_map] at hlens
            have hl1 : (aft n k (len + 1) p).length ≤ 100 := by omega
            have hl2 : acc.length + (aft n k (len + 1) p).length ≤ 100 := by omega
            have HM := Lib.hid hm
            have HREC := Lib.hid (IH.out (len + 1) p (L ++ [48 + p]) hpn (by omega) (by simp [HL.out]) (by omega) hl1 ((p : Int) + 1) rfl)
            have hconv := fun W => rune_text p (by omega) W
            have htx : txt L ++ txt [48 + p] = txt (L ++ [48 + p]) := (txt_app _ _).symm
            have hU : (txt [48 + p]).size = 1 := txt_size _
            clear hm HA hlens
            go_wp2_with fail
            refine (HREC.out _).mono ?_
            rintro e w2 ⟨v2, rfl, hn2, hb2⟩
            have hmap : (aft n k (len + 1) p).map ((L ++ [48 + p]) ++ ·) = ((aft n k (len + 1) p).map ((48 + p) :: ·)).map (L ++ ·) := by
              rw [List.map_map]
              congr 1
              funext t
              simp
            rw [hmap] at hn2
            have hl3 : (((aft n k (len + 1) p).map ((48 + p) :: ·)).map (L ++ ·)).length = (aft n k (len + 1) p).length := by simp
            have HM2 := Lib.hid (show (acc ++ (aft n k (len + 1) p).map ((48 + p) :: ·)) ++ stp n (fun p => aft n k (len + 1) p) q (p + 2) = aft n (k + 1) len last by rw [List.append_assoc]; exact HM.out)
            generalize (aft n k (len + 1) p).map ((48 + p) :: ·) = sub at *
            have hrel2 : ∀ v3 w3, New w.heap.size w3 9 v3 (strs ((acc ++ sub).map (L ++ ·))) → Below w.heap.size w w3 → (∃ (p' : Nat) (acc : List (List Nat)), last + 1 ≤ p' ∧ n + 1 ≤ q + p' ∧ Value.int .i64 ((p : Int) + 2) = .int .i64 p' ∧ acc ++ stp n (fun p => aft n k (len + 1) p) q p' = aft n (k + 1) len last ∧ New w.heap.size w3 9 v3 (strs (acc.map (L ++ ·))) ∧ Below w.heap.size w w3) := fun v3 w3 h1 h2 => ⟨p + 2, acc ++ sub, by omega, by omega, by go_num, HM2.out, h1, h2⟩
            have HREL := Lib.hid hrel2
            have hB2 := HB.out.trans (hb2.mono HB.out.size)
            have hN2 := HN.out.kept hb2
            have hs2 : w.heap.size ≤ w2.heap.size := hB2.size
            clear hrel2 hmap HM HREC hconv htx
            rcases hn2.own.shape with ⟨rfl, hnil⟩ | ⟨g, cap, rfl, hcap⟩
            · have hsub : sub = [] := by cases sub with
                | nil => rfl
                | cons => simp [strs] at hnil
              subst hsub
              have HN2 := Lib.hid hN2
              have HB2 := Lib.hid hB2
              clear hnil hn2 hb2 hN2 hB2 hl3
              go_wp2_with (at_builtin; refine wpList_app0 rfl (.tmp 38) (.tmp 43) 38 rfl 9 i0 Try.underlying38 I0.out.1 w.heap.size _ _ rfl HN2.out rfl ?_)
              go_roundg q
              case measure => omega
              case rel => exact HREL.out _ _ (by rw [List.append_nil]; exact HN2.out) HB2.out
            · have HN2 := Lib.hid hN2
              have HB2 := Lib.hid hB2
              have HV := Lib.hid hn2.own
              have hcl : (strs (sub.map (L ++ ·))).length = (aft n k (len + 1) p).length := by rw [strs_len, hl3]
              have HCL := Lib.hid hcl
              clear hn2 hb2 hN2 hB2 hl3 hcap hcl
              go_wp2_with (at_builtin; refine wpList_appN rfl (.tmp 38) (.tmp 43) 38 rfl 9 i0 (.string ⟨#[]⟩) 16 Try.underlying38 I0.out.1 I0.out.2.1 I0.out.2.2.1 I0.out.2.2.2 rfl w.heap.size w _ _ rfl HN2.out ⟨g, 0, none⟩ _ _ (strs (sub.map (L ++ ·))) rfl rfl ?d1 (strs_one _) hs2 HB2.out ?d3 (by omega) ?_)
              case d1 =>
                intro j u hj
                rw [show (⟨g, 0, none⟩ : Addr).add j = ⟨g, j, none⟩ from by unfold Addr.add; split <;> simp_all]
                exact HV.out.cell j u hj
              case d3 => rw [HCL.out, strs_len, List.length_map]; omega
              intro v3 w3 hn3 _ hb3 _ _
              rw [strs_app, ← List.map_append] at hn3
              have HN3 := Lib.hid hn3
              have HB3 := Lib.hid hb3
              clear hn3 hb3
              go_wp2
              go_roundg q
              case measure => omega
              case rel => exact HREL.out _ _ HN3.out HB3.out
          · have hpi : ¬ (p : Int) ≤ n := by omega
            have hm := HA.out
            rw [stp_end n _ _ _ hpn, List.append_nil] at hm
            go_wp2
            go_ret
            exact ⟨_, rfl, by rw [← hm]; exact HN.out, HB.out⟩
end Go.Proofs.Ytkeighlcdnfjcaa
