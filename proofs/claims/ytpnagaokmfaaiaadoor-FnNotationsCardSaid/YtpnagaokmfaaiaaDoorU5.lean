/- The reader of place notation: all blocks. -/
import Derived.Test.YtpnagaokmfaaiaaDoorU4
namespace Go.Proofs.YtpnagaokmfaaiaaDoor
open Go.RowKit
set_option linter.unusedSimpArgs false

theorem infoTexts : (Tryd.prog.info? 24).map (fun i => (i.zero, i.size, i.bytes)) = some (some (.slice none 0 0), 1, 24) := by kernel_rfl
/-- new lists of texts, each in a slice of its own -/
structure LS (B : Nat) (W : World) (v : Value) (vs : List Value) (ll : List (List (List Nat))) : Prop where
  own : New B W 24 v vs
  len : vs.length = ll.length
  one : ∀ u ∈ vs, u.oneCell' = true
  inner : ∀ i (h : i < ll.length), ∃ u, vs[i]? = some u ∧ New B W 9 u (strs ll[i])
theorem own_one {W : World} {e : TypeId} {v : Value} {xs : List Value} (h : Own W e v xs) : v.oneCell' = true := by
  rcases h.shape with ⟨rfl, _⟩ | ⟨g, cap, rfl, _⟩ <;> rfl
theorem LS.nil (B : Nat) (W : World) : LS B W (.slice none 0 0) [] [] := ⟨New.nil _ _ _, rfl, by simp, fun i h => by simp at h⟩
theorem LS.kept {B : Nat} {W W' : World} {v : Value} {vs : List Value} {ll : List (List (List Nat))} (h : LS B W v vs ll) (hb : Below W.heap.size W W') : LS B W' v vs ll :=
  ⟨h.own.kept hb, h.len, h.one, fun i hi => by obtain ⟨u, h1, h2⟩ := h.inner i hi; exact ⟨u, h1, h2.kept hb⟩⟩
theorem LS.only {B b : Nat} {W W' : World} {v : Value} {vs : List Value} {ll : List (List (List Nat))} (h : LS B W v vs ll) (hlt : b < B) (ho : Only b W W') : LS B W' v vs ll :=
  ⟨h.own.onlyU hlt ho, h.len, h.one, fun i hi => by obtain ⟨u, h1, h2⟩ := h.inner i hi; exact ⟨u, h1, h2.onlyU hlt ho⟩⟩
theorem LS.drewN {B : Nat} {W : World} {v : Value} {vs : List Value} {ll : List (List (List Nat))} (h : LS B W v vs ll) (k : Nat) : LS B (W.drewN k) v vs ll :=
  ⟨h.own.drewN k, h.len, h.one, fun i hi => by obtain ⟨u, h1, h2⟩ := h.inner i hi; exact ⟨u, h1, h2.drewN k⟩⟩
theorem LS.lower {B B' : Nat} {W : World} {v : Value} {vs : List Value} {ll : List (List (List Nat))} (h : LS B W v vs ll) (hB : B' ≤ B) : LS B' W v vs ll :=
  ⟨h.own.lower hB, h.len, h.one, fun i hi => by obtain ⟨u, h1, h2⟩ := h.inner i hi; exact ⟨u, h1, h2.lower hB⟩⟩
/-- one list more -/
theorem LS.add {B : Nat} {W W' : World} {v v' u : Value} {vs : List Value} {ll : List (List (List Nat))} {l : List (List Nat)} (h : LS B W v vs ll) (hu : New B W 9 u (strs l)) (hn : New B W' 24 v' (vs ++ [u])) (hk : KeptBut W W' v) : LS B W' v' (vs ++ [u]) (ll ++ [l]) := by
  have hlen := h.len
  have hin : ∀ u xs, New B W 9 u xs → New B W' 9 u xs := fun u xs hu => ⟨hu.own.block fun g hg => hk g (hu.own.lt g hg) (fun e => hu.own.apart h.own.own (by decide) g hg e), hu.base⟩
  refine ⟨hn, by simp [hlen], fun x hx => ?_, fun i hi => ?_⟩
  · rcases List.mem_append.1 hx with q | q
    · exact h.one x q
    · simp at q; subst q; exact own_one hu.own
  · by_cases hlt : i < ll.length
    · obtain ⟨u, h1, h2⟩ := h.inner i hlt
      refine ⟨u, by rw [List.getElem?_append_left (by omega)]; exact h1, ?_⟩
      rw [List.getElem_append_left hlt]
      exact hin _ _ h2
    · have hi2 : i = ll.length := by simp at hi; omega
      subst hi2
      refine ⟨u, by rw [List.getElem?_append_right (by omega), hlen]; simp, ?_⟩
      rw [List.getElem_append_right (by omega)]
      simpa using hin _ _ hu
theorem LS.first {B : Nat} {W : World} {u : Value} {l : List (List Nat)} (hB : B ≤ W.heap.size) (hu : New B W 9 u (strs l)) : LS B (W.alloc (.cells #[u] 24)) (.slice (some ⟨W.heap.size, 0, none⟩) 1 1) [u] [l] :=
  ⟨⟨Own.lit W 24 [u] (by simp), fun g hg => by simp [Value.ownBlock] at hg; omega⟩, rfl, fun x hx => by simp at hx; subst hx; exact own_one hu.own, fun i hi => by
    obtain rfl : i = 0 := by simp at hi; omega
    exact ⟨u, rfl, hu.kept ((Below.refl _ W).alloc (Nat.le_refl _) _)⟩⟩

/-- the blocks are read, or a panic tells where one is wrong -/
def BlksRes (b : Nat) (r : Blks) (w : World) (e : Ending) (w' : World) : Prop :=
  match r with
  | .error q => e = PanicAt q ∧ Only b w w'
  | .ok bs => ∃ v vs, e = .returned v ∧ LS w.heap.size w' v vs bs ∧ Only b w w'
theorem moreB_stop (n : Nat) (L : List Nat) (f p : Nat) (h : L.length ≤ p ∨ L.getD p 0 ≠ 44) : moreB n L (f + 1) p = .ok [] := by
  conv => lhs; unfold moreB
  rw [if_pos h]
theorem moreB_bad (n : Nat) (L : List Nat) (f p q : Nat) (h : ¬ (L.length ≤ p ∨ L.getD p 0 ≠ 44)) (hb : blockP n L (p + 1) = .error q) : moreB n L (f + 1) p = .error q := by
  conv => lhs; unfold moreB
  rw [if_neg h, hb]
theorem moreB_go (n : Nat) (L : List Nat) (f p q : Nat) (cs : List (List Nat)) (h : ¬ (L.length ≤ p ∨ L.getD p 0 ≠ 44)) (hb : blockP n L (p + 1) = .ok (cs, q)) : moreB n L (f + 1) p = Blks.cat [cs] (moreB n L f q) := by
  conv => lhs; unfold moreB
  rw [if_neg h, hb]

set_option maxRecDepth 100000 in
set_option maxHeartbeats 1000000 in
theorem blocks_in (n : Nat) (h3 : 3 ≤ n) (h8 : n ≤ 8) (b : Nat) (s : ByteArray) (w : World) (hs : s.size ≤ 1000) (h : Rd w b n s 0) :
    Calls Tryd.prog 66 #[.pointer (some ⟨b, 0, none⟩)] w (BlksRes b (blocksP n (lets s)) w) := by
  have HC : Hid (∀ W q, q ≤ s.size → Rd W b n s q → Calls Tryd.prog 77 #[.pointer (some ⟨b, 0, none⟩)] W (BlkRes b n s (blockP n (lets s) q) W)) := Lib.hid (fun W q hq hr => block_in n h3 h8 b s q W hs hq hr)
  have HS1 : Hid (∀ W q, q ≤ s.size → Rd W b n s q → Calls Tryd.prog 78 #[.pointer (some ⟨b, 0, none⟩), .string (txt [44])] W _) := Lib.hid (fun W q hq hr => sees_any [44] (by simp) b n s q W hq hr)
  have hB : b < w.heap.size := h.lt
  have HLL := Lib.hid (lets_len s)
  have hbp : blocksP n (lets s) = match blockP n (lets s) 0 with
    | .error e => .error e
    | .ok (cs, p') => Blks.cat [cs] (moreB n (lets s) (lets s).length p') := rfl
  generalize blocksP n (lets s) = res at *
  have HBP := Lib.hid hbp
  have HR := Lib.hid h
  obtain ⟨i0, hi0, hz0, hz1, hz2⟩ := info_parts infoTexts
  have I0 := Lib.hid (⟨hi0, hz0, hz1, hz2⟩ : _ ∧ _ ∧ _ ∧ _)
  clear hbp h hi0 hz0 hz1 hz2
  go_enter Tryd.func66, Tryd.ntmps66
  go_wp2_with fail
  refine (HC.out _ 0 (Nat.zero_le _) HR.out).mono ?_
  intro e w1 hres
  cases hb0 : blockP n (lets s) 0 with
  | error q =>
    rw [hb0] at hres
    obtain ⟨rfl, hon⟩ := hres
    have hbp := HBP.out
    rw [hb0] at hbp
    exact ⟨rfl, by rw [hbp]; exact ⟨rfl, hon⟩⟩
  | ok x =>
    obtain ⟨cs, p1⟩ := x
    rw [hb0] at hres
    obtain ⟨v1, rfl, hn1, hrd, hon⟩ := hres
    have hbp := HBP.out
    rw [hb0] at hbp
    have HRES : Hid (res = Blks.cat [cs] (moreB n (lets s) (lets s).length p1)) := Lib.hid hbp
    have hend := blockP_end n (lets s) 0 cs p1 hb0
    rw [HLL.out] at hend
    have HQ : Hid (0 < p1 ∧ p1 ≤ s.size) := Lib.hid ⟨hend.1, hend.2.1⟩
    have HLS := Lib.hid (LS.first hon.size hn1)
    have HRD : Hid (Rd (w1.alloc (.cells #[v1] 24)) b n s p1) := Lib.hid (RowAt.push hrd _)
    have HON : Hid (Only b w (w1.alloc (.cells #[v1] 24))) := Lib.hid (hon.trans (Only.of_below ((Below.refl _ w1).alloc (Nat.le_refl _) _)))
    obtain ⟨a1, cap1, rfl, _⟩ := hn1.own.view
    clear hbp hend hb0 hn1 hrd hon HR HBP
    go_wp2
    go_loopg [3] (lets s).length (fun q v wr => ∃ acc p' vs, Blks.cat acc (moreB n (lets s) q p') = res ∧ 0 < p' ∧ p' ≤ s.size ∧ s.size < p' + q ∧ acc.length ≤ p' ∧ LS w.heap.size wr v vs acc ∧ Rd wr b n s p' ∧ Only b w wr)
    case atStart => exact ⟨[cs], p1, _, HRES.out.symm, HQ.out.1, HQ.out.2, by have := HQ.out; have := HLL.out; omega, by have := HQ.out; simp; omega, HLS.out, HRD.out, HON.out⟩
    case round =>
      clear HRES HLS HRD HON HQ
      obtain ⟨acc, p', vs, hf, hp0, hps, hq, hal, hls, hrd, hon⟩ := hrel
      obtain ⟨f, rfl⟩ : ∃ f, gk = f + 1 := ⟨gk - 1, by omega⟩
      have HF := Lib.hid hf
      have HQ := Lib.hid hq
      have HAL := Lib.hid hal
      have HN := Lib.hid hls
      have HRD := Lib.hid hrd
      have HON := Lib.hid hon
      clear hf hq hal hls hrd hon
      go_wp2_with fail
      refine (HS1.out _ p' hps HRD.out).mono ?_
      rintro e w3 ⟨rfl, k3, hk3⟩
      have HN3 : Hid (LS w.heap.size w3 u3 vs acc) := Lib.hid (by rw [hk3]; exact HN.out.drewN _)
      have HRD3 : Hid (Rd w3 b n s p') := Lib.hid (by rw [hk3]; exact RowAt.drewN HRD.out _)
      have HON3 : Hid (Only b w w3) := Lib.hid (by rw [hk3]; exact HON.out.drewN _)
      clear hk3 HN HRD HON
      rw [seesB_one]
      by_cases hst : s.size ≤ p' ∨ (lets s).getD p' 0 ≠ 44
      · have hd : (decide (p' < s.size) && decide ((lets s).getD p' 0 = 44)) = false := by
          rw [Bool.and_eq_false_iff, decide_eq_false_iff_not, decide_eq_false_iff_not]
          rcases hst with h9 | h9
          · left; omega
          · right; exact h9
        have HRES : Hid (res = .ok acc) := Lib.hid (by rw [← HF.out, moreB_stop n (lets s) f p' (by rw [HLL.out]; exact hst)]; simp [Blks.cat])
        rw [hd]
        clear hst hd
        go_wp2
        go_ret
        rw [HRES.out]
        exact ⟨_, _, rfl, HN3.out, HON3.out⟩
      · have hd : (decide (p' < s.size) && decide ((lets s).getD p' 0 = 44)) = true := by
          rw [Bool.and_eq_true, decide_eq_true_eq, decide_eq_true_eq]
          exact ⟨by omega, by
            rcases Nat.decEq ((lets s).getD p' 0) 44 with h9 | h9
            · exact absurd (.inr h9) hst
            · exact h9⟩
        have HST : Hid (¬ ((lets s).length ≤ p' ∨ (lets s).getD p' 0 ≠ 44)) := Lib.hid (by rw [HLL.out]; exact hst)
        have hlt : p' < s.size := by omega
        have c2 := HRD3.out.cell 2 rfl
        have f2 := HRD3.out.free 2
        have hpi : (p' : Int) ≤ 1000 := by omega
        have HN5 : Hid (LS w.heap.size (w3.setCell ⟨b, 2, none⟩ (.int .i64 ((p' : Int) + 1))) u3 vs acc) := Lib.hid (HN3.out.only hB (Only.set w3 2 _))
        have HRD5 : Hid (Rd (w3.setCell ⟨b, 2, none⟩ (.int .i64 ((p' : Int) + 1))) b n s (p' + 1)) := Lib.hid HRD3.out.next
        have HON5 : Hid (Only b w (w3.setCell ⟨b, 2, none⟩ (.int .i64 ((p' : Int) + 1)))) := Lib.hid (HON3.out.setInt _)
        rw [hd]
        clear hst hd HN3 HRD3 HON3
        go_wp2_with fail
        generalize w3.setCell ⟨b, 2, none⟩ (.int .i64 ((p' : Int) + 1)) = w5 at *
        clear c2 f2
        refine (HC.out _ (p' + 1) (by omega) HRD5.out).mono ?_
        intro e w6 hres
        cases hb6 : blockP n (lets s) (p' + 1) with
        | error q =>
          rw [hb6] at hres
          obtain ⟨rfl, hon6⟩ := hres
          have HRES : Hid (res = .error q) := Lib.hid (by rw [← HF.out, moreB_bad n (lets s) f p' q HST.out hb6]; rfl)
          exact ⟨rfl, by rw [HRES.out]; exact ⟨rfl, HON5.out.trans hon6⟩⟩
        | ok x =>
          obtain ⟨cs6, p6⟩ := x
          rw [hb6] at hres
          obtain ⟨v6, rfl, hn6, hrd6, hon6⟩ := hres
          have hf := HF.out
          rw [moreB_go n (lets s) f p' p6 cs6 HST.out hb6, Blks.cat_cat] at hf
          have HF6 := Lib.hid hf
          have hend := blockP_end n (lets s) (p' + 1) cs6 p6 hb6
          rw [HLL.out] at hend
          have HNP6 : Hid (p' < p6 ∧ p6 ≤ s.size) := Lib.hid ⟨by omega, hend.2.1⟩
          have HN6 := Lib.hid (HN5.out.only hB hon6)
          have HRD6 := Lib.hid hrd6
          have HON6 := Lib.hid (HON5.out.trans hon6)
          have HV6 := Lib.hid (hn6.lower HON5.out.size)
          obtain ⟨a6, cap6, rfl, _⟩ := hn6.own.view
          clear hf hend hb6 hn6 hrd6 hon6 HF HN5 HRD5 HON5 HST
          have hal9 : vs.length ≤ 100000 := by rw [HN6.out.len]; have := HAL.out; omega
          go_wp2_with (at_builtin; refine wpList_app1 rfl (.tmp 16) (.tmp 19) 53 rfl 24 i0 (.slice none 0 0) 24 Tryd.underlying53 I0.out.1 I0.out.2.1 I0.out.2.2.1 I0.out.2.2.2 rfl w.heap.size _ _ vs rfl HN6.out.own rfl rfl HON6.out.size (Below.refl _ _) hal9 (by omega) ?_)
          intro v7 w7 hn7 hk7 hb7 _
          have HN7 := Lib.hid (HN6.out.add HV6.out hn7 hk7)
          have HRD7 := Lib.hid (HRD6.out.keep hb7 hB)
          have HON7 := Lib.hid (HON6.out.belowB hb7)
          clear hn7 hk7 hb7 HN6 HRD6 HON6 HV6
          go_wp2
          go_roundg f
          case measure => omega
          case rel => exact ⟨acc ++ [cs6], p6, _, HF6.out, by have := HNP6.out; omega, HNP6.out.2, by have := HNP6.out; have := HQ.out; omega, by have := HNP6.out; have := HAL.out; simp; omega, HN7.out, HRD7.out, HON7.out⟩
end Go.Proofs.YtpnagaokmfaaiaaDoor
