/- MirrorChange in the model, and the law on it. Plain facts: all changes, as the program and as the model lists them. No program here. All changes in the program. AllChanges in the program. The model's ways to go on from a place. All changes in the model. What the laws do with lists of texts: marks as texts, compare, mark, ask whether the marks stand. -/
import Derived.Test.YtapcfojnljnoaaaGreatK3
namespace Go.Proofs.YtapcfojnljnoaaaGreat
open Go.RowKit

/-- the first k places mirrored -/
def mirK (n : Nat) (ps : List Nat) (k : Nat) : List Nat := ((ps.take k).map (n + 1 - ·)).reverse
theorem mirK_succ (n : Nat) (ps : List Nat) (k : Nat) (hk : k < ps.length) : mirK n ps (k + 1) = (n + 1 - ps[k]) :: mirK n ps k := by
  unfold mirK
  rw [List.take_succ_eq_append_getElem hk, List.map_append, List.reverse_append]
  rfl
theorem mirK_len (n : Nat) (ps : List Nat) (k : Nat) : (mirK n ps k).length ≤ ps.length := by
  unfold mirK
  simp; omega
theorem mirK_lt (n : Nat) (ps : List Nat) (hp : ps.Pairwise (· < ·)) (hn : ∀ p ∈ ps, 1 ≤ p ∧ p ≤ n) (k : Nat) (hk : k < ps.length) : ∀ y ∈ mirK n ps k, n + 1 - ps[k] < y := by
  intro y hy
  simp only [mirK, List.mem_reverse, List.mem_map] at hy
  obtain ⟨q, hq, rfl⟩ := hy
  obtain ⟨i, hi, rfl⟩ := List.getElem_of_mem hq
  have hi' : i < k := by simp at hi; omega
  rw [List.getElem_take]
  have := (List.pairwise_iff_getElem.1 hp) i k (by omega) hk hi'
  have := hn _ (List.getElem_mem hk)
  omega

end Go.Proofs.YtapcfojnljnoaaaGreat
namespace Go.Proofs.YtapcfojnljnoaaaGreat

/-- the program's loop over the next place -/
def stp (n : Nat) (rec : Nat → List (List Nat)) : Nat → Nat → List (List Nat)
  | 0, _ => []
  | q + 1, p => if p ≤ n then (rec p).map ((48 + p) :: ·) ++ stp n rec q (p + 2) else []
theorem stp_end (n : Nat) (rec : Nat → List (List Nat)) (q p : Nat) (h : ¬ p ≤ n) : stp n rec q p = [] := by
  cases q <;> simp [stp, h]
/-- the program's changes behind the place 'last', where 'len' places are made already -/
def aft (n : Nat) : Nat → Nat → Nat → List (List Nat)
  | 0, _, _ => []
  | k + 1, len, last => (if (n - last) % 2 = 0 ∧ len < n then [[]] else []) ++ stp n (fun p => aft n k (len + 1) p) n (last + 1)
/-- the empty text turned into "-" -/
def fixA : List (List Nat) → List (List Nat)
  | [] :: t => [45] :: t
  | l => l
/-- the model's ways to go on from a place -/
def frm (n : Nat) : Nat → Nat → List (List Nat)
  | 0, _ => [[]]
  | k + 1, p => if n < p then [[]] else (frm n k (p + 1)).map (p :: ·) ++ (if p < n then frm n k (p + 2) else [])
theorem frm_len (n : Nat) : ∀ (k p : Nat), ∀ l ∈ frm n k p, l.length ≤ k
  | 0, p, l, h => by simp [frm] at h; simp [h]
  | k + 1, p, l, h => by
    unfold frm at h
    split at h
    · simp at h; simp [h]
    · rw [List.mem_append] at h
      rcases h with h | h
      · obtain ⟨t, ht, rfl⟩ := List.mem_map.1 h
        have := frm_len n k (p + 1) t ht
        simp only [List.length_cons]; omega
      · split at h
        · have := frm_len n k (p + 2) l h; omega
        · simp at h
theorem frm_small (n : Nat) (hn : n ≤ 8) : ∀ (k p : Nat), ∀ l ∈ frm n k p, ∀ x ∈ l, x ≤ 8
  | 0, p, l, h, x, hx => by simp [frm] at h; subst h; simp at hx
  | k + 1, p, l, h, x, hx => by
    unfold frm at h
    split at h
    · simp at h; subst h; simp at hx
    · rename_i hp
      rw [List.mem_append] at h
      rcases h with h | h
      · obtain ⟨t, ht, rfl⟩ := List.mem_map.1 h
        rcases List.mem_cons.1 hx with rfl | hx
        · omega
        · exact frm_small n hn k (p + 1) t ht x hx
      · split at h
        · exact frm_small n hn k (p + 2) l h x hx
        · simp at h
/-- one text moved to its place among those before it -/
def mv (s : List Nat) : Nat → List (List Nat) → List (List Nat)
  | 0, xs => xs.set 0 s
  | k + 1, xs => if lexL s (xs.getD k []) then mv s k (xs.set (k + 1) (xs.getD k [])) else xs.set (k + 1) s
def ins (xs : List (List Nat)) (s : List Nat) : List (List Nat) := mv s xs.length (xs ++ [s])
theorem mv_len (s : List Nat) : ∀ (k : Nat) (xs : List (List Nat)), (mv s k xs).length = xs.length
  | 0, xs => by simp [mv]
  | k + 1, xs => by
    unfold mv
    split
    · rw [mv_len s k]; simp
    · simp
theorem ins_len (xs : List (List Nat)) (s : List Nat) : (ins xs s).length = xs.length + 1 := by unfold ins; rw [mv_len]; simp
/-- one round of the model's loop -/
def rnd (n : Nat) (acc : List (List Nat)) (l : List Nat) : List (List Nat) := if goodL n (ofPlaces l) then ins acc (ofPlaces l) else acc
theorem alls (n : Nat) (h3 : 3 ≤ n) (h8 : n ≤ 8) : fixA (aft n 9 0 0) = chs n ∧ (frm n 10 1).foldl (rnd n) [] = chs n ∧ (aft n 9 0 0).length ≤ 100 ∧ (frm n 10 1).length ≤ 100 ∧ aft n 9 0 0 ≠ [] := by
  have : ∀ n, n < 9 → 3 ≤ n → (fixA (aft n 9 0 0) = chs n ∧ (frm n 10 1).foldl (rnd n) [] = chs n ∧ (aft n 9 0 0).length ≤ 100 ∧ (frm n 10 1).length ≤ 100 ∧ aft n 9 0 0 ≠ []) := by decide +kernel
  exact this n (by omega) h3
theorem chs_len (n : Nat) (h3 : 3 ≤ n) (h8 : n ≤ 8) : (chs n).length ≤ 100 ∧ 1 ≤ (chs n).length := by
  have : ∀ n, n < 9 → 3 ≤ n → ((chs n).length ≤ 100 ∧ 1 ≤ (chs n).length) := by decide +kernel
  exact this n (by omega) h3
end Go.Proofs.YtapcfojnljnoaaaGreat
namespace Go.Proofs.YtapcfojnljnoaaaGreat
open Go.RowKit

/-- texts as elements -/
def strs (ls : List (List Nat)) : List Value := ls.map fun l => .string (txt l)
theorem strs_len (ls : List (List Nat)) : (strs ls).length = ls.length := by simp [strs]
theorem strs_snoc (ls : List (List Nat)) (l : List Nat) : strs ls ++ [.string (txt l)] = strs (ls ++ [l]) := by simp [strs]
theorem strs_app (ls rs : List (List Nat)) : strs ls ++ strs rs = strs (ls ++ rs) := by simp [strs]
theorem strs_one (ls : List (List Nat)) : ∀ u ∈ strs ls, u.oneCell' = true := by
  intro u hu
  simp only [strs, List.mem_map] at hu
  obtain ⟨l, _, rfl⟩ := hu
  rfl

theorem aft_succ (n k len last : Nat) : aft n (k + 1) len last = (if (n - last) % 2 = 0 ∧ len < n then [[]] else []) ++ stp n (fun p => aft n k (len + 1) p) n (last + 1) := rfl
theorem rune_text (p : Nat) (hp : p ≤ 8) (w : World) : (convert 21 9 (.int .i32 (48 + p))).run Tryz.prog w = .ok (.string (txt [48 + p])) w := by
  have : p = 0 ∨ p = 1 ∨ p = 2 ∨ p = 3 ∨ p = 4 ∨ p = 5 ∨ p = 6 ∨ p = 7 ∨ p = 8 := by omega
  rw [run_convert_int_string w _ _ _ _ (by kernel_rfl) Tryz.underlying9]
  rcases this with rfl | rfl | rfl | rfl | rfl | rfl | rfl | rfl | rfl <;> rfl

def After (xs : List (List Nat)) (w : World) (e : Ending) (w' : World) : Prop := ∃ v, e = .returned v ∧ New w.heap.size w' 9 v (strs xs) ∧ Below w.heap.size w w'

end Go.Proofs.YtapcfojnljnoaaaGreat
namespace Go.Proofs.YtapcfojnljnoaaaGreat
open Go.RowKit

/-- new texts, and a word -/
def TextsAny (xs : List (List Nat)) (b : Bool) (w : World) (e : Ending) (w' : World) : Prop :=
  ∃ v, e = .returned (.tuple #[v, .bool b]) ∧ New w.heap.size w' 9 v (strs xs) ∧ Below w.heap.size w w'
theorem isEmpty_txt (b : List Nat) : (txt b).toList.isEmpty = decide (b = []) := by
  rw [empty_lets]
  have h1 : (lets (txt b)).length = b.length := by rw [lets_len, txt_size]
  cases b with
  | nil => rfl
  | cons x t =>
    have : lets (txt (x :: t)) ≠ [] := fun h => by rw [h] at h1; simp at h1
    simp [this]

end Go.Proofs.YtapcfojnljnoaaaGreat
namespace Go.Proofs.YtapcfojnljnoaaaGreat
open Go.RowKit

/-- new lists of numbers, each in a slice of its own -/
structure LL (B : Nat) (W : World) (v : Value) (vs : List Value) (ll : List (List Nat)) : Prop where
  own : New B W 31 v vs
  len : vs.length = ll.length
  one : ∀ u ∈ vs, u.oneCell' = true
  inner : ∀ i (h : i < ll.length), ∃ u, vs[i]? = some u ∧ Own W 3 u (nums ll[i])
theorem LL.nil (B : Nat) (W : World) : LL B W (.slice none 0 0) [] [] := ⟨New.nil _ _ _, rfl, by simp, fun i h => by simp at h⟩
theorem LL.kept {B : Nat} {W W' : World} {v : Value} {vs : List Value} {ll : List (List Nat)} (h : LL B W v vs ll) (hb : Below W.heap.size W W') : LL B W' v vs ll :=
  ⟨h.own.kept hb, h.len, h.one, fun i hi => by obtain ⟨u, h1, h2⟩ := h.inner i hi; exact ⟨u, h1, h2.kept hb⟩⟩
theorem Own.one {W : World} {e : TypeId} {v : Value} {xs : List Value} (h : Own W e v xs) : v.oneCell' = true := by
  rcases h.shape with ⟨rfl, _⟩ | ⟨g, cap, rfl, _⟩ <;> rfl
/-- lists behind others: what an append of many leaves -/
theorem LL.app {B B' : Nat} {W W' : World} {v v' vr : Value} {vs rs : List Value} {ll rr : List (List Nat)} (h : LL B W v vs ll) (hr : LL B' W vr rs rr) (hn : New B W' 31 v' (vs ++ rs)) (hk : KeptBut W W' v) : LL B W' v' (vs ++ rs) (ll ++ rr) := by
  have hlen := h.len
  have hin : ∀ u xs, Own W 3 u xs → Own W' 3 u xs := fun u xs hu => hu.block fun g hg => hk g (hu.lt g hg) (fun e => hu.apart h.own.own (by decide) g hg e)
  refine ⟨hn, by simp [hlen, hr.len], fun u hu => ?_, fun i hi => ?_⟩
  · rcases List.mem_append.1 hu with q | q
    · exact h.one u q
    · exact hr.one u q
  · by_cases hlt : i < ll.length
    · obtain ⟨u, h1, h2⟩ := h.inner i hlt
      refine ⟨u, by rw [List.getElem?_append_left (by omega)]; exact h1, ?_⟩
      rw [List.getElem_append_left hlt]
      exact hin _ _ h2
    · have hi2 : i - ll.length < rr.length := by simp at hi; omega
      obtain ⟨u, h1, h2⟩ := hr.inner (i - ll.length) hi2
      refine ⟨u, by rw [List.getElem?_append_right (by omega), hlen]; exact h1, ?_⟩
      rw [List.getElem_append_right (by omega)]
      exact hin _ _ h2
/-- one list more -/
theorem LL.add {B : Nat} {W W' : World} {v v' u : Value} {vs : List Value} {ll : List (List Nat)} {l : List Nat} (h : LL B W v vs ll) (hu : Own W 3 u (nums l)) (hn : New B W' 31 v' (vs ++ [u])) (hk : KeptBut W W' v) : LL B W' v' (vs ++ [u]) (ll ++ [l]) := by
  have hlen := h.len
  have hin : ∀ u xs, Own W 3 u xs → Own W' 3 u xs := fun u xs hu => hu.block fun g hg => hk g (hu.lt g hg) (fun e => hu.apart h.own.own (by decide) g hg e)
  refine ⟨hn, by simp [hlen], fun x hx => ?_, fun i hi => ?_⟩
  · rcases List.mem_append.1 hx with q | q
    · exact h.one x q
    · simp at q; subst q; exact hu.one
  · by_cases hlt : i < ll.length
    · obtain ⟨u, h1, h2⟩ := h.inner i hlt
      refine ⟨u, by rw [List.getElem?_append_left (by omega)]; exact h1, ?_⟩
      rw [List.getElem_append_left hlt]
      exact hin _ _ h2
    · have hi2 : i = ll.length := by simp at hi; omega
      subst hi2
      refine ⟨u, by rw [List.getElem?_append_right (by omega), hlen]; simp, ?_⟩
      rw [List.getElem_append_right (by omega)]
      simpa using hin _ _ hu

def FromRes (ll : List (List Nat)) (w : World) (e : Ending) (w' : World) : Prop := ∃ v vs, e = .returned v ∧ LL w.heap.size w' v vs ll ∧ Below w.heap.size w w'
theorem frm_succ (n k p : Nat) : frm n (k + 1) p = if n < p then [[]] else (frm n k (p + 1)).map (p :: ·) ++ (if p < n then frm n k (p + 2) else []) := rfl

end Go.Proofs.YtapcfojnljnoaaaGreat
namespace Go.Proofs.YtapcfojnljnoaaaGreat
open Go.RowKit

/-- letters that are bytes -/
def Sm (xs : List (List Nat)) : Prop := ∀ l ∈ xs, ∀ b ∈ l, b < 256
theorem Sm.set {xs : List (List Nat)} (h : Sm xs) (k : Nat) {s : List Nat} (hs : ∀ b ∈ s, b < 256) : Sm (xs.set k s) := by
  intro l hl
  rcases List.mem_or_eq_of_mem_set hl with q | q
  · exact h l q
  · rw [q]; exact hs
theorem Sm.get {xs : List (List Nat)} (h : Sm xs) (k : Nat) (hk : k < xs.length) : ∀ b ∈ xs.getD k [], b < 256 := by
  rw [List.getD_eq_getElem?_getD, List.getElem?_eq_getElem hk]
  exact h _ (List.getElem_mem hk)
theorem lexL_gt : ∀ a b : List Nat, (!lexL a b && !decide (a = b)) = lexL b a
  | [], [] => rfl
  | [], _ :: _ => rfl
  | _ :: _, [] => rfl
  | a :: l, b :: r => by
    have ih := lexL_gt l r
    unfold lexL
    rcases Nat.lt_trichotomy a b with h | h | h
    · have h1 : ¬ b < a := by omega
      have h2 : ¬ b = a := by omega
      simp [h, h1, h2]
    · subst h
      simp only [Nat.lt_irrefl, decide_false, beq_self_eq_true, Bool.true_and, Bool.false_or, List.cons.injEq, true_and]
      exact ih
    · have h1 : ¬ a < b := by omega
      have h2 : ¬ a = b := by omega
      simp [h, h1, h2]
theorem gt_txt {s t : List Nat} (hs : ∀ b ∈ s, b < 256) (ht : ∀ b ∈ t, b < 256) : (!Op.bytesLess (txt t).toList (txt s).toList && !(txt t).toList == (txt s).toList) = lexL s t := by
  rw [less_lets, same_lets, lets_txt s hs, lets_txt t ht]
  exact lexL_gt t s
theorem frm_len2 (n : Nat) : ∀ (k p : Nat), ∀ l ∈ frm n k p, l.length ≤ n + 1 - p
  | 0, p, l, h => by simp [frm] at h; simp [h]
  | k + 1, p, l, h => by
    unfold frm at h
    split at h
    · simp at h; simp [h]
    · rw [List.mem_append] at h
      rcases h with h | h
      · obtain ⟨t, ht, rfl⟩ := List.mem_map.1 h
        have := frm_len2 n k (p + 1) t ht
        simp only [List.length_cons]; omega
      · split at h
        · have := frm_len2 n k (p + 2) l h; omega
        · simp at h
theorem strs_at (xs : List (List Nat)) (k : Nat) (hk : k < xs.length) : (strs xs)[k]? = some (.string (txt (xs.getD k []))) := by
  simp [strs, List.getD_eq_getElem?_getD, hk]
theorem strs_set (xs : List (List Nat)) (k : Nat) (s : List Nat) : (strs xs).set k (.string (txt s)) = strs (xs.set k s) := by
  simp [strs, List.map_set]

end Go.Proofs.YtapcfojnljnoaaaGreat
namespace Go.Proofs.YtapcfojnljnoaaaGreat
open Go.RowKit

/-- the digits of a number in front of some letters -/
def dgs : Nat → Nat → List Nat → List Nat
  | 0, _, acc => acc
  | f + 1, k, acc => if k = 0 then acc else dgs f (k / 10) ((48 + k % 10) :: acc)
theorem dgs_end (f : Nat) (acc : List Nat) : dgs f 0 acc = acc := by cases f <;> simp [dgs]
/-- the mark of number k -/
def smark (k : Nat) : List Nat := 109 :: dgs k k []

/-- the marks from k on, n of them -/
def smarks (k n : Nat) : List (List Nat) := (List.range n).map fun j => smark (k + j)
theorem smarks_len (k n : Nat) : (smarks k n).length = n := by simp [smarks]
theorem smarks_at (k n j : Nat) (h : j < n) : (strs (smarks k n))[j]? = some (.string (txt (smark (k + j)))) := by simp [strs, smarks, h]
/-- the first j of xs marked -/
def smarkTo (k : Nat) (xs : List (List Nat)) (j : Nat) : List (List Nat) := smarks k j ++ xs.drop j
theorem smarkTo_len (k : Nat) (xs : List (List Nat)) (j : Nat) (h : j ≤ xs.length) : (smarkTo k xs j).length = xs.length := by simp [smarkTo, smarks_len]; omega
theorem smarkTo_succ (k : Nat) (xs : List (List Nat)) (j : Nat) (h : j < xs.length) : (smarkTo k xs j).set j (smark (k + j)) = smarkTo k xs (j + 1) := by
  have e : (List.drop j xs).set 0 (smark (k + j)) = smark (k + j) :: List.drop (j + 1) xs := by rw [List.drop_eq_getElem_cons h]; rfl
  unfold smarkTo
  rw [List.set_append_right _ _ (by rw [smarks_len]; exact Nat.le_refl _), smarks_len, Nat.sub_self, e]
  simp [smarks, List.range_succ]
theorem smarkTo_all (k : Nat) (xs : List (List Nat)) : smarkTo k xs xs.length = smarks k xs.length := by simp [smarkTo]

end Go.Proofs.YtapcfojnljnoaaaGreat
