/- MirrorChange in the model, and the law on it. Plain facts: all changes, as the program and as the model lists them. No program here. All changes in the program. AllChanges in the program. The model's ways to go on from a place. All changes in the model. What the laws do with lists of texts: marks as texts, compare, mark, ask whether the marks stand. -/
import Derived.Test.YtkhglknpcajmiaaK3
namespace Go.Proofs.Ytkhglknpcajmiaa
open Go.RowKit

/-- the first k places mirrored -/
def mirK (n : Nat) (ps : List Nat) (k : Nat) : List Nat := ((ps.take k).map (n + 1 - ·)).reverse
theorem mirK_succ (n : Nat) (ps : List Nat) (k : Nat) (hk : k < ps.length) : mirK n ps (k + 1) = (n + 1 - ps[k]) :: mirK n ps k := by
  unfold mirK
  rw [List.take_succ_eq_append_getElem hk, List.map_append, List.reverse_append]
  rfl
theorem mirK_len (n : Nat) (ps : List Nat) (k : Nat) : (mirK n ps k).length ≤ ps.length := by
  unfold mirK
  simp; omega
theorem mirK_lt (n : Nat) (ps : List Nat) (hp : ps.Pairwise (· < ·)) (hn : ∀ p ∈ ps, 1 ≤ p ∧ p ≤ n) (k : Nat) (hk : k < ps.length) : ∀ y ∈ mirK n ps k, n + 1 - ps[k] < y := by
  intro y hy
  simp only [mirK, List.mem_reverse, List.mem_map] at hy
  obtain ⟨q, hq, rfl⟩ := hy
  obtain ⟨i, hi, rfl⟩ := List.getElem_of_mem hq
  have hi' : i < k := by simp at hi; omega
  rw [List.getElem_take]
  have := (List.pairwise_iff_getElem.1 hp) i k (by omega) hk hi'
  have := hn _ (List.getElem_mem hk)
  omega

end Go.Proofs.Ytkhglknpcajmiaa
namespace Go.Proofs.Ytkhglknpcajmiaa

/-- the program's loop over the next place -/
def stp (n : Nat) (rec : Nat → List (List Nat)) : Nat → Nat → List (List Nat)
  | 0, _ => []
  | q + 1, p => if p ≤ n then (rec p).map ((48 + p) :: ·) ++ stp n rec q (p + 2) else []
theorem stp_end (n : Nat) (rec : Nat → List (List Nat)) (q p : Nat) (h : ¬ p ≤ n) : stp n rec q p = [] := by
  cases q <;> simp [stp, h]
/-- the program's changes behind the place 'last', where 'len' places are made already -/
def aft (n : Nat) : Nat → Nat → Nat → List (List Nat)
  | 0, _, _ => []
  | k + 1, len, last => (if (n - last) % 2 = 0 ∧ len < n then [[]] else []) ++ stp n (fun p => aft n k (len + 1) p) n (last + 1)
/-- the empty text turned into "-" -/
def fixA : List (List Nat) → List (List Nat)
  | [] :: t => [45] :: t
  | l => l
/-- the model's ways to go on from a place -/
def frm (n : Nat) : Nat → Nat → List (List Nat)
  | 0, _ => [[]]
  | k + 1, p => if n < p then [[]] else (frm n k (p + 1)).map (p :: ·) ++ (if p < n then frm n k (p + 2) else [])
theorem frm_len (n : Nat) : ∀ (k p : Nat), ∀ l ∈ frm n k p, l.length ≤ k
  | 0, p, l, h => by simp [frm] at h; simp [h]
  | k + 1, p, l, h => by
    unfold frm at h
    split at h
    · simp at h; simp [h]
    · rw [List.mem_append] at h
      rcases h with h | h
      · obtain ⟨t, ht, rfl⟩ := List.mem_map.1 h
        have := frm_len n k (p + 1) t ht
        simp only [List.length_cons]; omega
      · split at h
        · have := frm_len n k (p + 2) l h; omega
        · simp at h
theorem frm_small (n : Nat) (hn : n ≤ 8) : ∀ (k p : Nat), ∀ l ∈ frm n k p, ∀ x ∈ l, x ≤ 8
  | 0, p, l, h, x, hx => by simp [frm] at h; subst h; simp at hx
  | k + 1, p, l, h, x, hx => by
    unfold frm at h
    split at h
    · simp at h; subst h; simp at hx
    · rename_i hp
      rw [List.mem_append] at h
      rcases h with h | h
      · obtain ⟨t, ht, rfl⟩ := List.mem_map.1 h
        rcases List.mem_cons.1 hx with rfl | hx
        · omega
        · exact frm_small n hn k (p + 1) t ht x hx
      · split at h
        · exact frm_small n hn k (p + 2) l h x hx
        · simp at h
/-- one text moved to its place among those before it -/
def mv (s : List Nat) : Nat → List (List Nat) → List (List Nat)
  | 0, xs => xs.set 0 s
  | k + 1, xs => if lexL s (xs.getD k []) then mv s k (xs.set (k + 1) (xs.getD k [])) else xs.set (k + 1) s
def ins (xs : List (List Nat)) (s : List Nat) : List (List Nat) := mv s xs.length (xs ++ [s])
theorem mv_len (s : List Nat) : ∀ (k : Nat) (xs : List (List Nat)), (mv s k xs).length = xs.length
  | 0, xs => by simp [mv]
  | k + 1, xs => by
    unfold mv
    split
    · rw [mv_len s k]; simp
    · simp
theorem ins_len (xs : List (List Nat)) (s : List Nat) : (ins xs s).length = xs.length + 1 := by unfold ins; rw [mv_len]; simp
/-- one round of the model's loop -/
def rnd (n : Nat) (acc : List (List Nat)) (l : List Nat) : List (List Nat) := if goodL n (ofPlaces l) then ins acc (ofPlaces l) else acc
theorem alls (n : Nat) (h3 : 3 ≤ n) (h8 : n ≤ 8) : fixA (aft n 9 0 0) = chs n ∧ (frm n 10 1).foldl (rnd n) [] = chs n ∧ (aft n 9 0 0).length ≤ 100 ∧ (frm n 10 1).length ≤ 100 ∧ aft n 9 0 0 ≠ [] := by
  have : ∀ n, n < 9 → 3 ≤ n → (fixA (aft n 9 0 0) = chs n ∧ (frm n 10 1).foldl (rnd n) [] = chs n ∧ (aft n 9 0 0).length ≤ 100 ∧ (frm n 10 1).length ≤ 100 ∧ aft n 9 0 0 ≠ []) := by decide +kernel
  exact this n (by omega) h3
theorem chs_len (n : Nat) (h3 : 3 ≤ n) (h8 : n ≤ 8) : (chs n).length ≤ 100 ∧ 1 ≤ (chs n).length := by
  have : ∀ n, n < 9 → 3 ≤ n → ((chs n).length ≤ 100 ∧ 1 ≤ (chs n).length) := by decide +kernel
  exact this n (by omega) h3
end Go.Proofs.Ytkhglknpcajmiaa
namespace Go.Proofs.Ytkhglknpcajmiaa
open Go.RowKit

/-- texts as elements -/
def strs (ls : List (List Nat)) : List Value := ls.map fun l => .string (txt l)
theorem strs_len (ls : List (List Nat)) : (strs ls).length = ls.length := by simp [strs]
theorem strs_snoc (ls : List (List Nat)) (l : List Nat) : strs ls ++ [.string (txt l)] = strs (ls ++ [l]) := by simp [strs]
theorem strs_app (ls rs : List (List Nat)) : strs ls ++ strs rs = strs (ls ++ rs) := by simp [strs]
theorem strs_one (ls : List (List Nat)) : ∀ u ∈ strs ls, u.oneCell' = true := by
  intro u hu
  simp only [strs, List.mem_map] at hu
  obtain ⟨l, _, rfl⟩ := hu
  rfl

theorem aft_succ (n k len last : Nat) : aft n (k + 1) len last = (if (n - last) % 2 = 0 ∧ len < n then [[]] else []) ++ stp n (fun p => aft n k (len + 1) p) n (last + 1) := rfl
theorem rune_text (p : Nat) (hp : p ≤ 8) (w : World) : (convert 21 9 (.int .i32 (48 + p))).run Try.prog w = .ok (.string (txt [48 + p])) w := by
  have : p = 0 ∨ p = 1 ∨ p = 2 ∨ p = 3 ∨ p = 4 ∨ p = 5 ∨ p = 6 ∨ p = 7 ∨ p = 8 := by omega
  rw [run_convert_int_string w _ _ _ _ (by kernel_rfl) Try.underlying9]
  rcases this with rfl | rfl | rfl | rfl | rfl | rfl | rfl | rfl | rfl <;> rfl

def After (xs : List (List Nat)) (w : World) (e : Ending) (w' : World) : Prop := ∃ v, e = .returned v ∧ New w.heap.size w' 9 v (strs xs) ∧ Below w.heap.size w w'

end Go.Proofs.Ytkhglknpcajmiaa
namespace Go.Proofs.Ytkhglknpcajmiaa
open Go.RowKit

/-- new texts, and a word -/
def TextsAny (xs : List (List Nat)) (b : Bool) (w : World) (e : Ending) (w' : World) : Prop :=
  ∃ v, e = .returned (.tuple #[v, .bool b]) ∧ New w.heap.size w' 9 v (strs xs) ∧ Below w.heap.size w w'
theorem isEmpty_txt (b : List Nat) : (txt b).toList.isEmpty = decide (b = []) := by
  rw [empty_lets]
  have h1 : (lets (txt b)).length = b.length := by rw [lets_len, txt_size]
  cases b with
  | nil => rfl
  | cons x t =>
    have : lets (txt (x :: t)) ≠ [] := fun h => by rw [h] at h1; simp at h1
    simp [this]

end Go.Proofs.Ytkhglknpcajmiaa
namespace Go.Proofs.Ytkhglknpcajmiaa
open Go.RowKit

/-- new lists of numbers, each in a slice of its own -/
structure LL (B : Nat) (W : World) (v : Value) (vs : List Value) (ll : List (List Nat)) : Prop where
  own : New B W 36 v vs
  len : vs.length = ll.length
  one : ∀ u ∈ vs, u.oneCell' = true
  inner : ∀ i (h : i < ll.length), ∃ u, vs[i]? = some u ∧ Own W 3 u (nums ll[i])
theorem LL.nil (B : Nat) (W : World) : LL B W (.slice none 0 0) [] [] := ⟨New.nil _ _ _, rfl, by simp, fun i h => by simp at h⟩
theorem LL.kept {B : Nat} {W W' : World} {v : Value} {vs : List Value} {ll : List (List Nat)} (h : LL B W v vs ll) (hb : Below W.heap.size W W') : LL B W' v vs ll :=
  ⟨h.own.kept hb, h.len, h.one, fun i hi => by obtain ⟨u, h1, h2⟩ := h.inner i hi; exact ⟨u, h1, h2.kept hb⟩⟩
theorem Own.one {W : World} {e : TypeId} {v : Value} {xs : List Value} (h : Own W e v xs) : v.oneCell' = true := by
  rcases h.shape with ⟨rfl, _⟩ | ⟨g, cap, rfl, _⟩ <;> rfl
/-- lists behind others: what an append of many leaves -/
theorem LL.app {B B' : Nat} {W W' : World} {v v' vr : Value} {vs rs : List Value} {ll rr : List (List Nat)} (h : LL B W v vs ll) (hr : LL B' W vr rs rr) (hn : New B W' 36 v' (vs ++ rs)) (hk : KeptBut W W' v) : LL B W' v' (vs ++ rs) (ll ++ rr) := by
  have hlen := h.len
  have hin : ∀ u xs, Own W 3 u xs → Own W' 3 u xs := fun u xs hu => hu.block fun g hg => hk g (hu.lt g hg) (fun e => hu.apart h.own.own (by decide) g hg e)
  refine ⟨hn, by simp [hlen, hr.len], fun u hu => ?_, fun i hi => ?_⟩
  · rcases List.mem_append.1 hu with q | q
    · exact h.one u q
    · exact hr.one u q
  · by_cases hlt : i < ll.length
    · obtain ⟨u, h1, h2⟩ := h.inner i hlt
      refine ⟨u, by rw [List.getElem?_append_left (by omega)]; exact h1, ?_⟩
      rw [List.getElem_append_left hlt]
      exact hin _ _ h2
    · have hi2 : i - ll.length < rr.length := by simp at hi; omega
      obtain ⟨u, h1, h2⟩ := hr.inner (i - ll.length) hi2
      refine ⟨u, by rw [List.getElem?_append_right (by omega), hlen]; exact h1, ?_⟩
      rw [List.getElem_append_right (by omega)]
      exact hin _ _ h2
/-- one list more -/
theorem LL.add {B : Nat} {W W' : World} {v v' u : Value} {vs : List Value} {ll : List (List Nat)} {l : List Nat} (h : LL B W v vs ll) (hu : Own W 3 u (nums l)) (hn : New B W' 36 v' (vs ++ [u])) (hk : KeptBut W W' v) : LL B W' v' (vs ++ [u]) (ll ++ [l]) := by
  have hlen := h.len
  have hin : ∀ u xs, Own W 3 u xs → Own W' 3 u xs := fun u xs hu => hu.block fun g hg => hk g (hu.lt g hg) (fun e => hu.apart h.own.own (by decide) g hg e)
  refine ⟨hn, by simp [hlen], fun x hx => ?_, fun i hi => ?_⟩
  · rcases List.mem_append.1 hx with q | q
    · exact h.one x q
    · simp at q; subst q; exact hu.one
  · by_cases hlt : i < ll.length
    · obtain ⟨u, h1, h2⟩ := h.inner i hlt
      refine ⟨u, by rw [List.getElem?_append_left (by omega)]; exact h1, ?_⟩
      rw [List.getElem_append_left hlt]
      exact hin _ _ h2
    · have hi2 : i = ll.length := by simp at hi; omega
      subst hi2
      refine ⟨u, by rw [List.getElem?_append_right (by omega), hlen]; simp, ?_⟩
      rw [List.getElem_append_right (by omega)]
      simpa using hin _ _ hu

def FromRes (ll : List (List Nat)) (w : World) (e : Ending) (w' : World) : Prop := ∃ v vs, e = .returned v ∧ LL w.heap.size w' v vs ll ∧ Below w.heap.size w w'
theorem frm_succ (n k p : Nat) : frm n (k + 1) p = if n < p then [[]] else (frm n k (p + 1)).map (p :: ·) ++ (if p < n then frm n k (p + 2) else []) := rfl

set_option maxRecDepth 100000 in
set_option maxHeartbeats 1000000 in
theorem l2From_any (n : Nat) (h8 : n ≤ 8) : ∀ (k p : Nat), k ≤ 10 → n + 2 ≤ p + k → p ≤ n + 2 → (frm n k p).length ≤ 100 → ∀ (x : Int), x = p → ∀ w,
    Calls Try.prog 166 #[.int .i64 n, .int .i64 x] w (FromRes (frm n k p) w) := by
  intro k
  induction k with
  | zero =>
    intro p _ h1 h2 _ x hx w
    subst hx
    have h8' : (n : Int) ≤ 8 := by omega
    have hp : (n : Int) < p := by omega
    have e : frm n 0 p = [[]] := rfl
    rw [e]
    go_enter Try.func166, Try.ntmps166
    go_wp2
    go_ret
    refine ⟨_, [.slice none 0 0], rfl, ⟨⟨Own.lit w 36 [.slice none 0 0] (by simp), fun g hg => by simp [Value.ownBlock] at hg; omega⟩, rfl, by simp; rfl, fun i hi => ?_⟩, (Below.refl _ w).alloc (Nat.le_refl _) _⟩
    have : i = 0 := by simp at hi; omega
    subst this
    exact ⟨_, rfl, Own.nil _ _⟩
  | succ k ih =>
    intro p hk h1 h2 hlen x hx w
    subst hx
    have h8' : (n : Int) ≤ 8 := by omega
    by_cases hp : n < p
    · have hpi : (n : Int) < p := by omega
      rw [frm_succ, if_pos hp]
      clear ih
      go_enter Try.func166, Try.ntmps166
      go_wp2
      go_ret
      refine ⟨_, [.slice none 0 0], rfl, ⟨⟨Own.lit w 36 [.slice none 0 0] (by simp), fun g hg => by simp [Value.ownBlock] at hg; omega⟩, rfl, by simp; rfl, fun i hi => ?_⟩, (Below.refl _ w).alloc (Nat.le_refl _) _⟩
      have : i = 0 := by simp at hi; omega
      subst this
      exact ⟨_, rfl, Own.nil _ _⟩
    · have hpi : ¬ (n : Int) < p := by omega
      have hpn : (p : Int) ≤ n := by omega
      have hp9 : (p : Int) ≤ 8 := by omega
      rw [frm_succ, if_neg hp] at hlen ⊢
      generalize hrr : (if p < n then frm n k (p + 2) else []) = rr at hlen ⊢
      have HRR := Lib.hid hrr
      clear hrr
      simp only [List.length_append, List.length_map] at hlen
      have hl1 : (frm n k (p + 1)).length ≤ 100 := by omega
      have HF1 := Lib.hid (ih (p + 1) (by omega) (by omega) (by omega) hl1 ((p : Int) + 1) (by simp))
      have hsm := frm_len n k (p + 1)
      generalize frm n k (p + 1) = ll at *
      obtain ⟨i0, hi0, hz0, hz1, hz2⟩ := info_parts infoInt
      obtain ⟨i1, hi1, hy0, hy1, hy2⟩ := info_parts infoInts
      have I0 := Lib.hid (⟨hi0, hz0, hz1, hz2⟩ : _ ∧ _ ∧ _ ∧ _)
      have I1 := Lib.hid (⟨hi1, hy0, hy1, hy2⟩ : _ ∧ _ ∧ _ ∧ _)
      have IH := Lib.hid ih
      have HSM := Lib.hid hsm
      clear ih hi0 hz0 hz1 hz2 hi1 hy0 hy1 hy2 hsm
      go_enter Try.func166, Try.ntmps166
      go_wp2_with fail
      refine (HF1.out _).mono ?_
      rintro e w1 ⟨v1, vs1, rfl, hL1, hb1⟩
      obtain ⟨a, cap, rfl, ha⟩ := hL1.own.own.view
      obtain ⟨m, hm⟩ : ∃ m, ll.length = m := ⟨_, rfl⟩
      rw [hL1.len, hm] at ha hL1 ⊢
      rw [hm] at hl1
      have hm' : (m : Int) ≤ 100 := by omega
      have HL1 := Lib.hid hL1
      have HA := Lib.hid ha
      have HB1 := Lib.hid hb1
      have HM := Lib.hid hm
      clear hL1 ha hb1 hm
      go_wp2
      go_loopg [5, 7, 17] m (fun q out _ i wr => ∃ (j : Nat) (vs : List Value), j ≤ m ∧ q + j = m ∧ i = .int .i64 j ∧ LL w1.heap.size wr out vs ((ll.take j).map (p :: ·)) ∧ Below w1.heap.size w1 wr)
      case atStart => exact ⟨0, [], Nat.zero_le _, rfl, rfl, LL.nil _ _, Below.refl _ _⟩
      case round =>
        obtain ⟨j, vs, hj, hq, rfl, hLL, hbel⟩ := hrel
        have HQ := Lib.hid hq
        have HLL := Lib.hid hLL
        have HB := Lib.hid hbel
        clear hq hLL hbel
        by_cases hlt : j < m
        · obtain ⟨g, rfl⟩ := HA.out (by omega)
          have hjl : j < ll.length := by rw [HM.out]; exact hlt
          obtain ⟨u, hu1, hu2⟩ := HL1.out.inner j hjl
          have c1 := (HL1.out.own.own.kept HB.out).cell j u hu1
          have hu3 := hu2.kept HB.out
          have htk : (ll.take (j + 1)).map (p :: ·) = (ll.take j).map (p :: ·) ++ [p :: ll[j]] := by
            rw [List.take_succ_eq_append_getElem hjl, List.map_append]; rfl
          have hlk := HSM.out _ (List.getElem_mem hjl)
          have HTK := Lib.hid htk
          have hvl : vs.length ≤ 100 := by rw [HLL.out.len]; simp; omega
          generalize ll[j] = l at *
          have hji : (j : Int) < m := by omega
          have HLIT := Lib.hid (show New wr.heap.size (wr.alloc (.cells #[.int .i64 p] 3)) 3 (.slice (some ⟨wr.heap.size, 0, none⟩) 1 1) (nums [p]) from ⟨Own.lit wr 3 [.int .i64 p] (by simp), fun g hg => by simp [Value.ownBlock] at hg; omega⟩)
          have HBL := Lib.hid ((Below.refl wr.heap.size wr).alloc (Nat.le_refl _) (.cells #[.int .i64 p] 3))
          clear hu1 hu2 htk
          rcases hu3.shape with ⟨rfl, hnil⟩ | ⟨g2, cap2, rfl, hcap2⟩
          · have hl0 : l = [] := by cases l with
              | nil => rfl
              | cons => simp [nums, ints] at hnil
            subst hl0
            clear hnil hu3
            go_wp2_with (first | (at_builtin; refine wpList_app0 rfl (.tmp 23) (.tmp 24) 36 rfl 3 i0 Try.underlying36 I0.out.1 wr.heap.size _ _ rfl HLIT.out rfl ?_; generalize wr.alloc (.cells #[.int .i64 (p : Int)] 3) = w2 at HLIT HBL ⊢) | (at_builtin; refine wpList_app1 rfl (.tmp 21) (.tmp 26) 149 rfl 36 i1 (.slice none 0 0) 24 Try.underlying149 I1.out.1 I1.out.2.1 I1.out.2.2.1 I1.out.2.2.2 rfl w1.heap.size w1 _ vs rfl (HLL.out.kept HBL.out).own rfl rfl (Nat.le_trans HB.out.size HBL.out.size) (HB.out.trans (HBL.out.mono HB.out.size)) (by omega) (by omega) ?_))
            intro v4 w4 hn4 hk4 hb4 _
            have HL4 := Lib.hid ((HLL.out.kept HBL.out).add HLIT.out.own hn4 hk4)
            rw [← HTK.out] at HL4
            have HB4 := Lib.hid hb4
            clear hn4 hk4 hb4
            go_wp2
            go_roundg (m - (j + 1))
            case measure => have := HQ.out; omega
            case rel => exact ⟨j + 1, _, by omega, by have := HQ.out; omega, by go_num, HL4.out, HB4.out⟩
          · have HU := Lib.hid (hu3.kept HBL.out)
            clear hu3 hcap2
            go_wp2_with (at_builtin; refine wpList_appN rfl (.tmp 23) (.tmp 24) 36 rfl 3 i0 (.int .i64 0) 8 Try.underlying36 I0.out.1 I0.out.2.1 I0.out.2.2.1 I0.out.2.2.2 rfl wr.heap.size wr _ _ rfl HLIT.out ⟨g2, 0, none⟩ _ _ (nums l) rfl rfl ?d1 ?d2 HBL.out.size HBL.out ?d3 (by omega) ?_)
            case d1 =>
              intro j u hj
              exact HU.out.cell j u hj
            case d2 => intro u hu; simp [nums, ints] at hu; obtain ⟨y, _, rfl⟩ := hu; rfl
            case d3 => rw [nums_len, nums_len]; simp; omega
            intro v2 w2 hn2 _ hb2 _ _
            have HN2 := Lib.hid (show New wr.heap.size w2 3 v2 (nums (p :: l)) by simpa [nums, ints] using hn2)
            have HB2 := Lib.hid hb2
            clear hn2 hb2
            obtain ⟨a4, cap4, rfl, _⟩ := HN2.out.own.view
            go_wp2_with (at_builtin; refine wpList_app1 rfl (.tmp 21) (.tmp 26) 149 rfl 36 i1 (.slice none 0 0) 24 Try.underlying149 I1.out.1 I1.out.2.1 I1.out.2.2.1 I1.out.2.2.2 rfl w1.heap.size w1 _ vs rfl (HLL.out.kept HB2.out).own rfl HN2.out.own.one (Nat.le_trans HB.out.size HB2.out.size) (HB.out.trans (HB2.out.mono HB.out.size)) (by omega) (by omega) ?_)
            intro v4 w4 hn4 hk4 hb4 _
            have HL4 := Lib.hid ((HLL.out.kept HB2.out).add HN2.out.own hn4 hk4)
            rw [← HTK.out] at HL4
            have HB4 := Lib.hid hb4
            clear hn4 hk4 hb4
            go_wp2
            go_roundg (m - (j + 1))
            case measure => have := HQ.out; omega
            case rel => exact ⟨j + 1, _, by omega, by have := HQ.out; omega, by go_num, HL4.out, HB4.out⟩
        · obtain rfl : j = m := by omega
          have hji : ¬ (j : Int) < j := by omega
          have hall : ll.take j = ll := List.take_of_length_le (by rw [HM.out]; exact Nat.le_refl _)
          rw [hall] at HLL
          have HLL2 := Lib.hid (HLL.out)
          by_cases hpl : p < n
          · have hpli : (p : Int) < n := by omega
            have hrr : frm n k (p + 2) = rr := by rw [← HRR.out, if_pos hpl]
            have HF2 := Lib.hid (IH.out (p + 2) (by omega) (by omega) (by omega) (by rw [hrr]; omega) ((p : Int) + 2) (by simp))
            rw [hrr] at HF2
            clear hpl hrr
            go_wp2_with fail
            refine (HF2.out _).mono ?_
            rintro e w3 ⟨v3, vs3, rfl, hL3, hb3⟩
            have hN3 := HLL2.out.kept hb3
            have hs3 : w1.heap.size ≤ w3.heap.size := Nat.le_trans HB.out.size hb3.size
            have hB3 := HB.out.trans (hb3.mono HB.out.size)
            have hl3 : vs3.length ≤ 100 := by rw [hL3.len]; omega
            have hl4 : vs.length ≤ 100 := by rw [HLL2.out.len, List.length_map]; omega
            have hfin : ∀ v4 w4, LL w1.heap.size w4 v4 (vs ++ vs3) (ll.map (p :: ·) ++ rr) → Below w1.heap.size w1 w4 → FromRes (ll.map (p :: ·) ++ rr) w (.returned v4) w4 := fun v4 w4 hL hB => ⟨_, _, rfl, ⟨hL.own.lower HB1.out.size, hL.len, hL.one, hL.inner⟩, HB1.out.trans (hB.mono HB1.out.size)⟩
            have HFIN := Lib.hid hfin
            rcases hL3.own.own.shape with ⟨rfl, hnil⟩ | ⟨g3, cap3, rfl, hcap3⟩
            · subst hnil
              have hr0 : rr = [] := List.eq_nil_of_length_eq_zero (by rw [← hL3.len]; rfl)
              subst hr0
              have HN3 := Lib.hid hN3
              have HB3 := Lib.hid hB3
              clear hN3 hB3 hb3 hL3 hfin
              go_wp2_with (at_builtin; refine wpList_app0 rfl (.tmp 32) (.tmp 36) 149 rfl 36 i1 Try.underlying149 I1.out.1 w1.heap.size _ vs rfl HN3.out.own rfl ?_)
              go_ret
              exact HFIN.out _ _ (by rw [List.append_nil, List.append_nil]; exact HN3.out) HB3.out
            · have HN3 := Lib.hid hN3
              have HB3 := Lib.hid hB3
              have HV3 := Lib.hid hL3
              clear hN3 hB3 hb3 hL3 hfin hcap3
              go_wp2_with (at_builtin; refine wpList_appN rfl (.tmp 32) (.tmp 36) 149 rfl 36 i1 (.slice none 0 0) 24 Try.underlying149 I1.out.1 I1.out.2.1 I1.out.2.2.1 I1.out.2.2.2 rfl w1.heap.size w1 _ vs rfl HN3.out.own ⟨g3, 0, none⟩ _ _ vs3 rfl rfl ?e1 HV3.out.one hs3 HB3.out ?e3 (by omega) ?_)
              case e1 =>
                intro j u hj
                rw [show (⟨g3, 0, none⟩ : Addr).add j = ⟨g3, j, none⟩ from by unfold Addr.add; split <;> simp_all]
                exact HV3.out.own.own.cell j u hj
              case e3 => omega
              intro v4 w4 hn4 hk4 hb4 _ _
              have HL4 := Lib.hid (HN3.out.app HV3.out hn4 hk4)
              have HB4 := Lib.hid hb4
              clear hn4 hk4 hb4
              go_wp2
              go_ret
              exact HFIN.out _ _ HL4.out HB4.out
          · have hpli : ¬ (p : Int) < n := by omega
            have hrr : rr = [] := by rw [← HRR.out, if_neg hpl]
            have HRR2 := Lib.hid hrr
            clear hpl hrr
            go_wp2
            go_ret
            rw [HRR2.out, List.append_nil]
            exact ⟨_, _, rfl, ⟨HLL2.out.own.lower HB1.out.size, HLL2.out.len, HLL2.out.one, HLL2.out.inner⟩, HB1.out.trans (HB.out.mono HB1.out.size)⟩
end Go.Proofs.Ytkhglknpcajmiaa
namespace Go.Proofs.Ytkhglknpcajmiaa
open Go.RowKit

/-- letters that are bytes -/
def Sm (xs : List (List Nat)) : Prop := ∀ l ∈ xs, ∀ b ∈ l, b < 256
theorem Sm.set {xs : List (List Nat)} (h : Sm xs) (k : Nat) {s : List Nat} (hs : ∀ b ∈ s, b < 256) : Sm (xs.set k s) := by
  intro l hl
  rcases List.mem_or_eq_of_mem_set hl with q | q
  · exact h l q
  · rw [q]; exact hs
theorem Sm.get {xs : List (List Nat)} (h : Sm xs) (k : Nat) (hk : k < xs.length) : ∀ b ∈ xs.getD k [], b < 256 := by
  rw [List.getD_eq_getElem?_getD, List.getElem?_eq_getElem hk]
  exact h _ (List.getElem_mem hk)
theorem lexL_gt : ∀ a b : List Nat, (!lexL a b && !decide (a = b)) = lexL b a
  | [], [] => rfl
  | [], _ :: _ => rfl
  | _ :: _, [] => rfl
  | a :: l, b :: r => by
    have ih := lexL_gt l r
    unfold lexL
    rcases Nat.lt_trichotomy a b with h | h | h
    · have h1 : ¬ b < a := by omega
      have h2 : ¬ b = a := by omega
      simp [h, h1, h2]
    · subst h
      simp only [Nat.lt_irrefl, decide_false, beq_self_eq_true, Bool.true_and, Bool.false_or, List.cons.injEq, true_and]
      exact ih
    · have h1 : ¬ a < b := by omega
      have h2 : ¬ a = b := by omega
      simp [h, h1, h2]
theorem gt_txt {s t : List Nat} (hs : ∀ b ∈ s, b < 256) (ht : ∀ b ∈ t, b < 256) : (!Op.bytesLess (txt t).toList (txt s).toList && !(txt t).toList == (txt s).toList) = lexL s t := by
  rw [less_lets, same_lets, lets_txt s hs, lets_txt t ht]
  exact lexL_gt t s
theorem frm_len2 (n : Nat) : ∀ (k p : Nat), ∀ l ∈ frm n k p, l.length ≤ n + 1 - p
  | 0, p, l, h => by simp [frm] at h; simp [h]
  | k + 1, p, l, h => by
    unfold frm at h
    split at h
    · simp at h; simp [h]
    · rw [List.mem_append] at h
      rcases h with h | h
      · obtain ⟨t, ht, rfl⟩ := List.mem_map.1 h
        have := frm_len2 n k (p + 1) t ht
        simp only [List.length_cons]; omega
      · split at h
        · have := frm_len2 n k (p + 2) l h; omega
        · simp at h
theorem strs_at (xs : List (List Nat)) (k : Nat) (hk : k < xs.length) : (strs xs)[k]? = some (.string (txt (xs.getD k []))) := by
  simp [strs, List.getD_eq_getElem?_getD, hk]
theorem strs_set (xs : List (List Nat)) (k : Nat) (s : List Nat) : (strs xs).set k (.string (txt s)) = strs (xs.set k s) := by
  simp [strs, List.map_set]

set_option maxRecDepth 100000 in
set_option maxHeartbeats 1000000 in
theorem l2All_any (n : Nat) (h3 : 3 ≤ n) (h8 : n ≤ 8) (w : World) : Calls Try.prog 165 #[.int .i64 n] w (After (chs n) w) := by
  have h8' : (n : Int) ≤ 8 := by omega
  obtain ⟨_, hfold, _, hlen, _⟩ := alls n h3 h8
  have HF := Lib.hid (l2From_any n h8 10 1 (by omega) (by omega) (by omega) hlen 1 (by simp))
  have hsm := frm_small n h8 10 1
  have hfl := frm_len2 n 10 1
  generalize frm n 10 1 = ll at *
  generalize chs n = res at *
  obtain ⟨i0, hi0, hz0, hz1, hz2⟩ := info_parts infoText
  have I0 := Lib.hid (⟨hi0, hz0, hz1, hz2⟩ : _ ∧ _ ∧ _ ∧ _)
  have HFOLD := Lib.hid hfold
  have HSM := Lib.hid hsm
  have HFL := Lib.hid hfl
  clear hfold hsm hi0 hz0 hz1 hz2 hfl
  obtain ⟨m, hm⟩ : ∃ m, ll.length = m := ⟨_, rfl⟩
  rw [hm] at hlen
  have HM := Lib.hid hm
  clear hm
  have hm' : (m : Int) ≤ 100 := by omega
  go_enter Try.func165, Try.ntmps165
  go_wp2_with fail
  refine (HF.out _).mono ?_
  rintro e w1 ⟨v1, vs1, rfl, hL1, hb1⟩
  obtain ⟨a, cap, rfl, ha⟩ := hL1.own.own.view
  rw [hL1.len, HM.out] at ha hL1 ⊢
  have HL1 := Lib.hid hL1
  have HA := Lib.hid ha
  have HB1 := Lib.hid hb1
  clear hL1 ha hb1
  go_wp2
  go_loopg [3, 5, 6, 7, 11] m (fun q out _ _ _ i wr => ∃ (j : Nat) (acc : List (List Nat)), j ≤ m ∧ q + j = m ∧ i = .int .i64 j ∧ acc.length ≤ j ∧ Sm acc ∧ (ll.drop j).foldl (rnd n) acc = res ∧ New w1.heap.size wr 9 out (strs acc) ∧ Below w1.heap.size w1 wr)
  case atStart => exact ⟨0, [], Nat.zero_le _, rfl, rfl, by simp, fun l hl => by simp at hl, by simpa using HFOLD.out, New.nil _ _ _, Below.refl _ _⟩
  case round =>
    clear HFOLD
    obtain ⟨j, acc, hj, hq, rfl, hal, hsma, hfo, hnew, hbel⟩ := hrel
    have HQ := Lib.hid hq
    have HSA := Lib.hid hsma
    have HFO := Lib.hid hfo
    obtain ⟨a3, cap3, rfl, _⟩ := hnew.own.view
    rw [strs_len] at hnew ⊢
    have HN := Lib.hid hnew
    have HB := Lib.hid hbel
    clear hq hsma hfo hnew hbel
    by_cases hlt : j < m
    · obtain ⟨g, rfl⟩ := HA.out (by omega)
      have hjl : j < ll.length := by rw [HM.out]; exact hlt
      obtain ⟨u, hu1, hu2⟩ := HL1.out.inner j hjl
      have c1 := (HL1.out.own.own.kept HB.out).cell j u hu1
      have HU := Lib.hid (hu2.kept HB.out)
      have hfo := HFO.out
      rw [List.drop_eq_getElem_cons hjl, List.foldl_cons] at hfo
      have hlk := HFL.out _ (List.getElem_mem hjl)
      have hlx := HSM.out _ (List.getElem_mem hjl)
      generalize ll[j] = l at *
      have hji : (j : Int) < m := by omega
      have HOF := Lib.hid (fun W (hW : Own W 3 u (nums l)) => l2Of_any u l (Nat.le_trans hlk (by omega)) (fun x hx => by have := hlx x hx; omega) W hW)
      have hsl : ∀ b ∈ ofPlaces l, b < 256 := by
        intro b hb
        unfold ofPlaces at hb
        split at hb
        · simp at hb; omega
        · obtain ⟨x, hx, rfl⟩ := List.mem_map.1 hb
          have := hlx x hx; omega
      have hgc : goodC n (txt (ofPlaces l)) = goodL n (ofPlaces l) := by rw [goodC_in, lets_txt _ hsl]
      have hsz : (txt (ofPlaces l)).size ≤ maxLen := by
        rw [txt_size]
        have : (ofPlaces l).length ≤ 10 := by
          unfold ofPlaces
          split
          · simp
          · simp; omega
        unfold maxLen; omega
      unfold rnd at hfo
      have HCH := Lib.hid (l2Change_any n (txt (ofPlaces l)) hsz)
      rw [hgc] at HCH
      have HSL := Lib.hid hsl
      generalize ofPlaces l = s at *
      clear hu1 hu2 hlk hlx hgc hsz hsl
      cases hgood : goodL n s
      · rw [hgood] at hfo HCH
        have HFO2 := Lib.hid hfo
        clear hfo hgood
        go_wp2_with fail
        refine (HOF.out _ HU.out).mono ?_
        rintro e w2 ⟨rfl, hb2⟩
        have HB2 := Lib.hid (HB.out.trans (hb2.mono HB.out.size))
        have HN2 := Lib.hid (HN.out.kept hb2)
        clear hb2
        go_wp2_with fail
        refine (HCH.out _).mono ?_
        rintro e w' ⟨rfl, rfl⟩
        go_wp2
        go_roundg (m - (j + 1))
        case measure => have := HQ.out; omega
        case rel => exact ⟨j + 1, acc, by omega, by have := HQ.out; omega, by go_num, by omega, HSA.out, HFO2.out, HN2.out, HB2.out⟩
      · rw [hgood] at hfo HCH
        have HFO2 := Lib.hid hfo
        clear hfo hgood
        have hai : (acc.length : Int) ≤ 100 := by omega
        go_wp2_with fail
        refine (HOF.out _ HU.out).mono ?_
        rintro e w2 ⟨rfl, hb2⟩
        have HB2 := Lib.hid (HB.out.trans (hb2.mono HB.out.size))
        have HN2 := Lib.hid (HN.out.kept hb2)
        clear hb2
        go_wp2_with fail
        refine (HCH.out _).mono ?_
        rintro e w' ⟨rfl, rfl⟩
        go_wp2_with (at_builtin; refine wpList_app1 rfl (.tmp 23) (.tmp 25) 23 rfl 9 i0 (.string ⟨#[]⟩) 16 Try.underlying23 I0.out.1 I0.out.2.1 I0.out.2.2.1 I0.out.2.2.2 rfl w1.heap.size w1 _ (strs acc) rfl HN2.out rfl rfl HB2.out.size HB2.out (by rw [strs_len]; omega) (by omega) ?_)
        intro v4 w4 hn4 _ hb4 _
        rw [strs_snoc] at hn4
        obtain ⟨a4, cap4, rfl, ha4⟩ := hn4.own.view
        obtain ⟨g4, rfl⟩ := ha4 (by rw [strs_len]; simp)
        have hL4 : (strs (acc ++ [s])).length = acc.length + 1 := by rw [strs_len]; simp
        rw [hL4] at hn4 ⊢
        have HN4 := Lib.hid hn4
        have HB4 := Lib.hid hb4
        have hg4 := hn4.base g4 rfl
        clear hn4 hb4 ha4 hL4
        go_wp2
        go_loopg [7] acc.length (fun q i wk => ∃ xs : List (List Nat), q ≤ acc.length ∧ i = .int .i64 q ∧ xs.length = acc.length + 1 ∧ Sm xs ∧ mv s q xs = ins acc s ∧ Own wk 9 (.slice (some ⟨g4, 0, none⟩) (acc.length + 1) cap4) (strs xs) ∧ Below w1.heap.size w1 wk)
        case atStart => exact ⟨acc ++ [s], Nat.le_refl _, rfl, by simp, fun l hl => by
          rcases List.mem_append.1 hl with q | q
          · exact HSA.out l q
          · simp at q; rw [q]; exact HSL.out, rfl, HN4.out.own, HB4.out⟩
        case round =>
          clear HN4 HB4 HN2 HB2 HN HB HU
          obtain ⟨xs, hqa, rfl, hxl, hsx, hmv, hown, hbk⟩ := hrel
          have HO := Lib.hid hown
          have HBK := Lib.hid hbk
          have HSX := Lib.hid hsx
          have HMV := Lib.hid hmv
          have HXL := Lib.hid hxl
          clear hown hbk hsx hmv hxl
          cases gk with
          | zero =>
            have c5 := HO.out.cell 0 _ (strs_at xs 0 (by rw [HXL.out]; omega))
            have f5 := HO.out.free 0
            have HINS := Lib.hid (show xs.set 0 s = ins acc s from HMV.out)
            generalize xs.getD 0 [] = y at *
            clear HMV
            have HO2 := Lib.hid (HO.out.set 0 (.string (txt s)))
            rw [strs_set, HINS.out] at HO2
            have HB6 := Lib.hid (HBK.out.setCell (p := ⟨g4, 0, none⟩) hg4 (.string (txt s)))
            have HS6 := Lib.hid (show Sm (ins acc s) by rw [← HINS.out]; exact HSX.out.set 0 HSL.out)
            have hins := ins_len acc s
            rw [← strs_len (ins acc s)] at hins
            go_wp2
            go_roundg (m - (j + 1))
            case measure => have := HQ.out; omega
            case rel => exact ⟨j + 1, ins acc s, by omega, by have := HQ.out; omega, by go_num, by rw [ins_len]; omega, HS6.out, HFO2.out, ⟨by unfold Own; rw [hins]; unfold Own at HO2; rw [hins] at HO2; exact HO2.out, fun g hg => by simp [Value.ownBlock] at hg; omega⟩, HB6.out⟩
          | succ k =>
            have hkx : k < xs.length := by rw [HXL.out]; omega
            have c5 := HO.out.cell k _ (strs_at xs k hkx)
            have c6 := HO.out.cell (k + 1) _ (strs_at xs (k + 1) (by rw [HXL.out]; omega))
            have f6 := HO.out.free (k + 1)
            have hls := gt_txt HSL.out (HSX.out.get k hkx)
            have hmv := HMV.out
            unfold mv at hmv
            have hk1 : (0 : Int) < (k : Int) + 1 := by omega
            have hka : (k : Int) + 1 ≤ (acc.length : Int) := by omega
            have hyb := HSX.out.get k hkx
            generalize xs.getD k [] = y at *
            generalize xs.getD (k + 1) [] = z at *
            cases hlex : lexL s y
            · rw [hlex] at hls hmv
              have HINS := Lib.hid (show xs.set (k + 1) s = ins acc s from hmv)
              clear hmv HMV hlex hyb
              have HO2 := Lib.hid (HO.out.set (k + 1) (.string (txt s)))
              rw [strs_set, HINS.out] at HO2
              have HB6 := Lib.hid (HBK.out.setCell (p := ⟨g4, (k + 1), none⟩) hg4 (.string (txt s)))
              have HS6 := Lib.hid (show Sm (ins acc s) by rw [← HINS.out]; exact HSX.out.set (k + 1) HSL.out)
              have hins := ins_len acc s
              rw [← strs_len (ins acc s)] at hins
              go_wp2
              go_roundg (m - (j + 1))
              case measure => have := HQ.out; omega
              case rel => exact ⟨j + 1, ins acc s, by omega, by have := HQ.out; omega, by go_num, by rw [ins_len]; omega, HS6.out, HFO2.out, ⟨by unfold Own; rw [hins]; unfold Own at HO2; rw [hins] at HO2; exact HO2.out, fun g hg => by simp [Value.ownBlock] at hg; omega⟩, HB6.out⟩
            · rw [hlex] at hls hmv
              have HMV2 := Lib.hid (show mv s k (xs.set (k + 1) y) = ins acc s from hmv)
              have HO2 := Lib.hid (HO.out.set (k + 1) (.string (txt y)))
              rw [strs_set] at HO2
              have HB6 := Lib.hid (HBK.out.setCell (p := ⟨g4, k + 1, none⟩) hg4 (.string (txt y)))
              have HS6 := Lib.hid (HSX.out.set (k + 1) hyb)
              clear hmv HMV hlex hyb
              go_wp2
              go_roundg k
              case measure => omega
              case rel => exact ⟨xs.set (k + 1) y, by omega, by go_num, by rw [List.length_set]; exact HXL.out, HS6.out, HMV2.out, HO2.out, HB6.out⟩
    · obtain rfl : j = m := by omega
      have hji : ¬ (j : Int) < j := by omega
      have hfo := HFO.out
      rw [List.drop_of_length_le (by rw [HM.out]; exact Nat.le_refl _)] at hfo
      have HFO2 := Lib.hid (show acc = res from hfo)
      clear hfo
      go_wp2
      go_ret
      exact ⟨_, rfl, by rw [← HFO2.out]; exact HN.out.lower HB1.out.size, HB1.out.trans (HB.out.mono HB1.out.size)⟩
end Go.Proofs.Ytkhglknpcajmiaa
namespace Go.Proofs.Ytkhglknpcajmiaa
open Go.RowKit

/-- the digits of a number in front of some letters -/
def dgs : Nat → Nat → List Nat → List Nat
  | 0, _, acc => acc
  | f + 1, k, acc => if k = 0 then acc else dgs f (k / 10) ((48 + k % 10) :: acc)
theorem dgs_end (f : Nat) (acc : List Nat) : dgs f 0 acc = acc := by cases f <;> simp [dgs]
/-- the mark of number k -/
def smark (k : Nat) : List Nat := 109 :: dgs k k []

set_option maxRecDepth 100000 in
set_option maxHeartbeats 1000000 in
theorem markText_any (k : Nat) (h1 : 1 ≤ k) (h2 : k ≤ 3000000) (w : World) :
    Calls Try.prog 132 #[.int .i64 k] w fun e w' => e = .returned (.string (txt (smark k))) ∧ Below w.heap.size w w' := by
  have h1' : ¬ (k : Int) ≤ 0 := by omega
  have hpre : txt (smark k) = txt [109] ++ txt (dgs k k []) := by rw [← txt_app]; rfl
  have hp1 : (txt [109]).size = 1 := txt_size _
  rw [hpre]
  clear hpre
  generalize hres : dgs k k [] = res
  have HRES := Lib.hid hres
  clear hres
  go_enter Try.func132, Try.ntmps132
  go_wp2
  go_loopg [0, 3] k (fun q kk o wr => ∃ (x : Nat) (acc : List Nat), x ≤ q ∧ kk = .int .i64 x ∧ o = .string (txt acc) ∧ acc.length + q = k ∧ dgs q x acc = res ∧ Below w.heap.size w wr)
  case atStart => exact ⟨k, [], Nat.le_refl _, rfl, rfl, by simp, HRES.out, Below.refl _ _⟩
  case round =>
    clear HRES
    obtain ⟨x, acc, hxq, rfl, rfl, hal, hd, hbel⟩ := hrel
    have HD := Lib.hid hd
    have HB := Lib.hid hbel
    have hsz : (txt acc).size = acc.length := txt_size _
    clear hd hbel
    by_cases hx : x = 0
    · subst hx
      have hd := HD.out
      rw [dgs_end] at hd
      have HD2 := Lib.hid hd
      have hal' : (txt acc).size ≤ 3000000 := by omega
      have HT := Lib.hid (show txt acc = txt res by rw [HD2.out])
      generalize txt acc = T at *
      clear hsz
      go_wp2
      go_ret
      exact ⟨by rw [← HT.out]; rfl, HB.out⟩
    · obtain ⟨q, rfl⟩ : ∃ q, gk = q + 1 := ⟨gk - 1, by omega⟩
      have hd := HD.out
      unfold dgs at hd
      rw [if_neg hx] at hd
      have hxi : (0 : Int) < x := by omega
      have hm10 : ((x : Int) % 10) = ((x % 10 : Nat) : Int) := by omega
      have hd10 : ((x : Int) / 10) = ((x / 10 : Nat) : Int) := by omega
      have hxl : (x : Int) ≤ 3000000 := by omega
      have hlt10 : x % 10 < 10 := by omega
      have hle : x / 10 ≤ q := by omega
      have htx : txt [48 + x % 10] ++ txt acc = txt ((48 + x % 10) :: acc) := (txt_app _ _).symm
      have hs1 : (txt [48 + x % 10]).size = 1 := txt_size _
      have HD2 := Lib.hid hd
      generalize x % 10 = r at *
      generalize x / 10 = y at *
      have hconv := conv_dig (wr.alloc (.cells #[.int .u8 (48 + r)] 5)) wr.heap.size 1 1 (fun _ => 48 + r) (fun i hi => by
        obtain rfl : i = 0 := by omega
        exact (RowAt.new wr 5 #[.int .u8 (48 + r)]).cell 0 rfl)
      have e1 : strOf 1 (fun _ => 48 + r) = txt [48 + r] := by simp [strOf, txt, List.range_succ]
      rw [e1] at hconv
      clear hd HD e1 hx
      have hal' : (acc.length : Int) ≤ 3000000 := by omega
      go_wp2
      go_roundg q
      case measure => omega
      case rel => exact ⟨y, (48 + r) :: acc, hle, by go_num, rfl, by simp; omega, HD2.out, HB.out.alloc HB.out.size _⟩

/-- the marks from k on, n of them -/
def smarks (k n : Nat) : List (List Nat) := (List.range n).map fun j => smark (k + j)
theorem smarks_len (k n : Nat) : (smarks k n).length = n := by simp [smarks]
theorem smarks_at (k n j : Nat) (h : j < n) : (strs (smarks k n))[j]? = some (.string (txt (smark (k + j)))) := by simp [strs, smarks, h]
/-- the first j of xs marked -/
def smarkTo (k : Nat) (xs : List (List Nat)) (j : Nat) : List (List Nat) := smarks k j ++ xs.drop j
theorem smarkTo_len (k : Nat) (xs : List (List Nat)) (j : Nat) (h : j ≤ xs.length) : (smarkTo k xs j).length = xs.length := by simp [smarkTo, smarks_len]; omega
theorem smarkTo_succ (k : Nat) (xs : List (List Nat)) (j : Nat) (h : j < xs.length) : (smarkTo k xs j).set j (smark (k + j)) = smarkTo k xs (j + 1) := by
  have e : (List.drop j xs).set 0 (smark (k + j)) = smark (k + j) :: List.drop (j + 1) xs := by rw [List.drop_eq_getElem_cons h]; rfl
  unfold smarkTo
  rw [List.set_append_right _ _ (by rw [smarks_len]; exact Nat.le_refl _), smarks_len, Nat.sub_self, e]
  simp [smarks, List.range_succ]
theorem smarkTo_all (k : Nat) (xs : List (List Nat)) : smarkTo k xs xs.length = smarks k xs.length := by simp [smarkTo]

set_option maxRecDepth 100000 in
set_option maxHeartbeats 1000000 in
theorem eqStringS_same (v v' : Value) (xs : List (List Nat)) (w : World) (h : Own w 9 v (strs xs)) (h' : Own w 9 v' (strs xs)) (hb : xs.length ≤ 2000000) :
    Calls Try.prog 70 #[v, v'] w fun e w' => e = .returned (.bool true) ∧ ∃ m, w' = w.drewN m := by
  obtain ⟨n, hn⟩ : ∃ n, xs.length = n := ⟨_, rfl⟩
  obtain ⟨a, cap, rfl, ha⟩ := h.view
  obtain ⟨a', cap', rfl, ha'⟩ := h'.view
  rw [strs_len, hn] at h h' ha ha' ⊢
  rw [hn] at hb
  have HO := Lib.hid h
  have HO' := Lib.hid h'
  have HA := Lib.hid ha
  have HA' := Lib.hid ha'
  clear h h' ha ha'
  have HN := Lib.hid hn
  clear hn
  go_enter Try.func70, Try.ntmps70
  go_wp2
  go_loopg [5] n (fun q i wr => ∃ k : Nat, k ≤ n ∧ q + k = n ∧ i = .int .i64 k ∧ ∃ d, wr = w.drewN d)
  case atStart => exact ⟨0, Nat.zero_le _, rfl, rfl, 0, rfl⟩
  case round =>
    obtain ⟨k, hk, hq, rfl, d, rfl⟩ := hrel
    have HQ := Lib.hid hq
    clear hq
    by_cases hlt : k < n
    · obtain ⟨g, rfl⟩ := HA.out (by omega)
      obtain ⟨g', rfl⟩ := HA'.out (by omega)
      have hkx : k < xs.length := by rw [HN.out]; exact hlt
      have c1 := HO.out.cell k _ (strs_at xs k hkx)
      have c2 := HO'.out.cell k _ (strs_at xs k hkx)
      have hki : (k : Int) < n := by omega
      generalize txt (xs.getD k []) = x at c1 c2
      have hself : (x.toList == x.toList) = true := by simp
      go_wp2
      go_quiet (fail)
      go_wp2
      go_roundg (n - (k + 1))
      case measure => have := HQ.out; omega
      case rel => exact ⟨k + 1, by omega, by have := HQ.out; omega, by go_num, _, rfl⟩
    · obtain rfl : k = n := by omega
      go_wp2
      go_ret
      exact ⟨rfl, d, rfl⟩

set_option maxRecDepth 100000 in
set_option maxHeartbeats 1000000 in
theorem markStringS_full (B : Nat) (v : Value) (xs : List (List Nat)) (k : Nat) (w : World) (h : New B w 9 v (strs xs)) (hB : B ≤ w.heap.size) (hb : xs.length ≤ 2000000) (hk0 : 1 ≤ k) (hk1 : k ≤ 100) :
    Calls Try.prog 73 #[v, .int .i64 k] w fun e w' => e = .returned (.int .i64 (k + xs.length)) ∧ New B w' 9 v (strs (smarks k xs.length)) ∧ Below B w w' ∧ KeptBut w w' v := by
  obtain ⟨n, hn⟩ : ∃ n, xs.length = n := ⟨_, rfl⟩
  have hbase := h.base
  have hown := h.own
  obtain ⟨a, cap, rfl, ha⟩ := hown.view
  rw [strs_len, hn] at hown ha hbase ⊢
  rw [hn] at hb
  have HO := Lib.hid hown
  have HA := Lib.hid ha
  have HBASE := Lib.hid hbase
  clear h ha hown hbase
  have HN := Lib.hid hn
  clear hn
  go_enter Try.func73, Try.ntmps73
  go_wp2
  go_loopg [1, 5] n (fun q kk i wr => ∃ j : Nat, j ≤ n ∧ q + j = n ∧ i = .int .i64 j ∧ kk = .int .i64 ((k + j : Nat) : Int) ∧ Own wr 9 (.slice a n cap) (strs (smarkTo k xs j)) ∧ Below B w wr ∧ KeptBut w wr (.slice a n cap))
  case atStart => exact ⟨0, Nat.zero_le _, rfl, rfl, by simp, by simpa [smarkTo, smarks] using HO.out, Below.refl _ _, fun _ _ _ => rfl⟩
  case round =>
    obtain ⟨j, hj, hq, rfl, rfl, ho, hg, hkb⟩ := hrel
    have HKB := Lib.hid hkb
    have HQ := Lib.hid hq
    have HO2 := Lib.hid ho
    have HG := Lib.hid hg
    clear hq ho hg hkb
    by_cases hlt : j < n
    · obtain ⟨g, rfl⟩ := HA.out (by omega)
      have hjx : j < (smarkTo k xs j).length := by rw [smarkTo_len k xs j (by rw [HN.out]; exact hj), HN.out]; exact hlt
      have hki : (j : Int) < n := by omega
      have HT : Hid (∀ (x : Int) (W : World), x = ((k + j : Nat) : Int) → Calls Try.prog 132 #[.int .i64 x] W fun e w' => e = .returned (.string (txt (smark (k + j)))) ∧ Below W.heap.size W w') := Lib.hid (fun x W hx => by subst hx; exact markText_any (k + j) (by omega) (by omega) W)
      go_wp2_with fail
      refine (HT.out _ _ (by simp)).mono ?_
      rintro e w2 ⟨rfl, hb2⟩
      have hO3 := HO2.out.kept hb2
      have HG3 := Lib.hid (HG.out.trans (hb2.mono (Nat.le_trans hB HG.out.size)))
      have c1 := hO3.cell j _ (strs_at (smarkTo k xs j) j hjx)
      have f1 := hO3.free j
      have hset := hO3.set j (.string (txt (smark (k + j))))
      rw [strs_set, smarkTo_succ k xs j (by rw [HN.out]; exact hlt)] at hset
      have HSET := Lib.hid hset
      generalize txt ((smarkTo k xs j).getD j []) = y at c1
      have hgb := HBASE.out g rfl
      have HKB2 : Hid (KeptBut w (w2.setCell ⟨g, j, none⟩ (.string (txt (smark (k + j))))) (.slice (some ⟨g, 0, none⟩) n cap)) := Lib.hid (fun b hbw hne => by
        have h1 : b ≠ g := fun e => hne (by rw [e]; rfl)
        rw [Below.heap_setCell _ _ _ _ h1, hb2.block b (Nat.lt_of_lt_of_le hbw HG.out.size)]
        exact HKB.out b hbw hne)
      clear hset hO3 hb2
      go_wp2
      go_roundg (n - (j + 1))
      case measure => have := HQ.out; omega
      case rel => exact ⟨j + 1, by omega, by have := HQ.out; omega, by go_num, by go_num, HSET.out, HG3.out.setCell hgb _, HKB2.out⟩
    · obtain rfl : j = n := by omega
      have hfin := HO2.out
      rw [← HN.out, smarkTo_all, HN.out] at hfin
      have HF := Lib.hid hfin
      clear hfin
      go_wp2
      go_ret
      exact ⟨by simp, ⟨HF.out, HBASE.out⟩, HG.out, HKB.out⟩

theorem markStringS_any (B : Nat) (v : Value) (xs : List (List Nat)) (k : Nat) (w : World) (h : New B w 9 v (strs xs)) (hB : B ≤ w.heap.size) (hb : xs.length ≤ 2000000) (hk0 : 1 ≤ k) (hk1 : k ≤ 100) :
    Calls Try.prog 73 #[v, .int .i64 k] w fun e w' => e = .returned (.int .i64 (k + xs.length)) ∧ New B w' 9 v (strs (smarks k xs.length)) ∧ Below B w w' :=
  (markStringS_full B v xs k w h hB hb hk0 hk1).mono fun _ _ ⟨h1, h2, h3, _⟩ => ⟨h1, h2, h3⟩

set_option maxRecDepth 100000 in
set_option maxHeartbeats 1000000 in
theorem heldStringS_any (v : Value) (n k : Nat) (w : World) (h : Own w 9 v (strs (smarks k n))) (hb : n ≤ 2000000) (hk0 : 1 ≤ k) (hk1 : k ≤ 100) :
    Calls Try.prog 74 #[v, .int .i64 k] w fun e w' => e = .returned (.int .i64 (k + n)) ∧ Below w.heap.size w w' := by
  obtain ⟨a, cap, rfl, ha⟩ := h.view
  rw [strs_len, smarks_len] at h ha ⊢
  have HO := Lib.hid h
  have HA := Lib.hid ha
  clear h ha
  go_enter Try.func74, Try.ntmps74
  go_wp2
  go_loopg [1, 5] n (fun q kk i wr => ∃ j : Nat, j ≤ n ∧ q + j = n ∧ i = .int .i64 j ∧ kk = .int .i64 ((k + j : Nat) : Int) ∧ Below w.heap.size w wr)
  case atStart => exact ⟨0, Nat.zero_le _, rfl, rfl, by simp, Below.refl _ _⟩
  case round =>
    obtain ⟨j, hj, hq, rfl, rfl, hg⟩ := hrel
    have HQ := Lib.hid hq
    have HG := Lib.hid hg
    clear hq hg
    by_cases hlt : j < n
    · obtain ⟨g, rfl⟩ := HA.out (by omega)
      have hki : (j : Int) < n := by omega
      have HT : Hid (∀ (x : Int) (W : World), x = ((k + j : Nat) : Int) → Calls Try.prog 132 #[.int .i64 x] W fun e w' => e = .returned (.string (txt (smark (k + j)))) ∧ Below W.heap.size W w') := Lib.hid (fun x W hx => by subst hx; exact markText_any (k + j) (by omega) (by omega) W)
      have hS3 : wr.drew.cell? ⟨g, j, none⟩ = some (.string (txt (smark (k + j)))) ∧ Below w.heap.size w wr.drew := ⟨(HO.out.kept HG.out).cell j _ (smarks_at k n j hlt), HG.out.drew⟩
      have hS4 : ∀ w4, Below wr.drew.heap.size wr.drew w4 → w4.cell? ⟨g, j, none⟩ = some (.string (txt (smark (k + j)))) ∧ Below w.heap.size w w4 := fun w4 hb => by
        have hB := hS3.2.trans (hb.mono hS3.2.size)
        exact ⟨(HO.out.kept hB).cell j _ (smarks_at k n j hlt), hB⟩
      have HS3 := Lib.hid hS3
      have HS4 := Lib.hid hS4
      clear hS3 hS4
      generalize txt (smark (k + j)) = y at *
      have hself : (y.toList == y.toList) = true := by simp
      go_wp2
      go_region_held3 (fun w' => w'.cell? ⟨g, j, none⟩ = some (.string y) ∧ Below w.heap.size w w') (first | exact HS3.out | exact HS4.out _ hb4) (first | (go_at_call 132; refine (HT.out _ _ (by simp)).mono ?_; rintro e3 w4 ⟨rfl, hb4⟩) | fail)
      have HB5 := Lib.hid (HS4.out _ hb4).2
      clear hb4
      go_wp2
      go_roundg (n - (j + 1))
      case measure => have := HQ.out; omega
      case rel => exact ⟨j + 1, by omega, by have := HQ.out; omega, by go_num, by go_num, HB5.out⟩
    · obtain rfl : j = n := by omega
      go_wp2
      go_ret
      exact ⟨by simp, HG.out⟩
end Go.Proofs.Ytkhglknpcajmiaa
