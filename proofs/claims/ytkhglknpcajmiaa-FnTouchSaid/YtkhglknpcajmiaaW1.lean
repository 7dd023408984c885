/- Draws of lists of changes: a hunting method's changes. -/
import Derived.Test.YtkhglknpcajmiaaC3
import Derived.Test.YtkhglknpcajmiaaK5
namespace Go.Proofs.Ytkhglknpcajmiaa
open Go.RowKit
set_option linter.unusedSimpArgs false
set_option linter.unusedVariables false

theorem string_lets (s : ByteArray) : Value.string s = Value.string (txt (lets s)) := by rw [txt_lets]
/-- a new list of at most K short texts -/
def Few (K : Nat) (B : Nat) (W : World) (v : Value) (L : List (List Nat)) : Prop := New B W 9 v (strs L) ∧ L.length ≤ K ∧ ∀ l ∈ L, l.length ≤ 10
theorem Few.nil (K B : Nat) (W : World) : Few K B W (.slice none 0 0) [] := ⟨New.nil _ _ _, by simp, by simp⟩

set_option maxRecDepth 100000 in
set_option maxHeartbeats 1000000 in
theorem l4Hunting_any (n : Nat) (h3 : 4 ≤ n) (h8 : n ≤ 6) (last : ByteArray) (hl : last.size ≤ 10) (w : World) :
    Calls Try.prog 164 #[.int .i64 n, .string last] w fun e w' => ∃ v L, e = .returned v ∧ Few 12 w.heap.size w' v L ∧ Below w.heap.size w w' := by
  have hnum := l1Num_digit n (by omega)
  have hds : (txt [48 + n]).size ≤ 1 := by rw [txt_size]; simp
  generalize txt [48 + n] = d at *
  have hni : (n : Int) ≤ 6 := by omega
  obtain ⟨i0, hi0, hz0, hz1, hz2⟩ := info_parts infoText
  have I0 := Lib.hid (⟨hi0, hz0, hz1, hz2⟩ : _ ∧ _ ∧ _ ∧ _)
  clear hi0 hz0 hz1 hz2
  have hmod : n % 2 = 0 ∨ n % 2 = 1 := by omega
  rcases hmod with hm | hm
  · have hmi : (n : Int) % 2 = 0 := by omega
    clear hm
    go_enter Try.func164, Try.ntmps164
    go_wp2_with fail
    refine (hnum _).mono ?_
    rintro e w1 ⟨rfl, hb1⟩
    have HB1 := Lib.hid hb1
    clear hb1
    obtain ⟨s1, hs1, hz1⟩ : ∃ s : ByteArray, s = ⟨#[45]⟩ ∧ s.size ≤ 10 := ⟨_, rfl, by decide⟩
    obtain ⟨s2, hs2, hz2⟩ : ∃ s : ByteArray, s = ⟨#[49]⟩ ++ d ∧ s.size ≤ 10 := ⟨_, rfl, by rw [ByteArray.size_append]; show 1 + d.size ≤ 10; omega⟩
    go_wp2
    rw [← hs1, ← hs2]
    rw [hmi]
    clear hs1 hs2
    have HZ1 := Lib.hid hz1
    have HZ2 := Lib.hid hz2
    clear hz1 hz2 hnum hds
    go_loopg [7, 8] n (fun q ov i wr => ∃ (k : Nat) (L : List (List Nat)), k ≤ n ∧ q + k = n ∧ i = .int .i64 k ∧ New w.heap.size wr 9 ov (strs L) ∧ L.length = 2 * k ∧ (∀ l ∈ L, l.length ≤ 10) ∧ Below w.heap.size w wr)
    case atStart => exact ⟨0, [], by omega, rfl, rfl, New.nil _ _ _, rfl, by simp, HB1.out⟩
    case round =>
      clear HB1
      obtain ⟨k, L, hk, hq, rfl, hnew, hlen, hall, hb⟩ := hrel
      have HN := Lib.hid hnew
      have HALL := Lib.hid hall
      have HB := Lib.hid hb
      have HLEN := Lib.hid hlen
      obtain ⟨ao, co, hov, hao⟩ := hnew.own.view
      rw [strs_len, hlen] at hov hao
      subst hov
      clear hnew hall hb hlen
      by_cases hlt : k < n
      · have hki : (k : Int) < n := by omega
        have HL2 : Hid (∀ l ∈ L ++ [lets s1, lets s2], l.length ≤ 10) := Lib.hid (fun l hl => by
          rcases List.mem_append.1 hl with h9 | h9
          · exact HALL.out l h9
          · simp at h9
            rcases h9 with rfl | rfl
            · rw [lets_len]; exact HZ1.out
            · rw [lets_len]; exact HZ2.out)
        have hcells : ∀ t y, (strs [lets s1, lets s2])[t]? = some y → (wr.alloc (.cells #[.string s1, .string s2] 9)).cell? ((⟨wr.heap.size, 0, none⟩ : Addr).add t) = some y := fun t y hy => by
          rw [add_at, Nat.zero_add]
          have hr := RowAt.new wr 9 #[.string s1, .string s2]
          refine hr.cell t ?_
          rw [← hy]
          match t with
          | 0 => simp [strs, txt_lets]
          | 1 => simp [strs, txt_lets]
          | t + 2 => simp [strs]
        have HCE := Lib.hid hcells
        have HN2 : Hid (New w.heap.size (wr.alloc (.cells #[.string s1, .string s2] 9)) 9 (.slice ao (2 * k) co) (strs L)) := Lib.hid (HN.out.kept ((Below.refl _ _).alloc (Nat.le_refl _) _))
        have HB2 : Hid (Below w.heap.size w (wr.alloc (.cells #[.string s1, .string s2] 9))) := Lib.hid (HB.out.alloc HB.out.size _)
        clear hcells hao
        go_wp2_with (at_builtin; refine wpList_appN rfl (.tmp 22) (.tmp 25) 23 rfl 9 i0 (.string ⟨#[]⟩) 16 Try.underlying23 I0.out.1 I0.out.2.1 I0.out.2.2.1 I0.out.2.2.2 rfl w.heap.size w _ (strs L) rfl HN2.out ⟨wr.heap.size, 0, none⟩ 2 2 (strs [lets s1, lets s2]) rfl rfl HCE.out (strs_one _) HB2.out.size HB2.out (by rw [strs_len, HLEN.out]; omega) (by omega) ?_)
        intro v4 w4 hn4 _ hb4 _ _
        have e4 : strs L ++ strs [lets s1, lets s2] = strs (L ++ [lets s1, lets s2]) := by simp [strs]
        rw [e4] at hn4
        have HN4 := Lib.hid hn4
        have HB4 := Lib.hid hb4
        clear hn4 hb4 e4
        go_wp2
        go_roundg (n - (k + 1))
        case measure => omega
        case rel => exact ⟨k + 1, _, by omega, by omega, by go_num, HN4.out, by have := HLEN.out; simp; omega, HL2.out, HB4.out⟩
      · obtain rfl : k = n := by omega
        obtain ⟨g, hg⟩ := hao (by omega)
        subst hg
        obtain ⟨m, hm⟩ : ∃ m, 2 * k = m + 1 := ⟨2 * k - 1, by omega⟩
        have HM := Lib.hid hm
        have hm9 : ((2 * k : Nat) : Int) - 1 = m := by omega
        have hmk : 2 * (k : Int) - 1 = m := by omega
        have hml : (m : Int) < 2 * (k : Int) := by omega
        have hx : ∃ u, (strs L)[m]? = some u := ⟨_, List.getElem?_eq_getElem (by rw [strs_len, HLEN.out]; omega)⟩
        obtain ⟨u, hu⟩ := hx
        have c1 := HN.out.own.cell m u hu
        have f1 := HN.out.own.free m
        have hset := HN.out.own.set m (.string last)
        rw [string_lets last, strs_set] at hset
        have HSET := Lib.hid hset
        have HGB := Lib.hid (HN.out.base g rfl)
        have HL2 : Hid (∀ l ∈ L.set m (lets last), l.length ≤ 10) := Lib.hid (fun l hl9 => by
          rcases List.mem_or_eq_of_mem_set hl9 with h9 | h9
          · exact HALL.out l h9
          · rw [h9, lets_len]; exact hl)
        clear hset hu hao hm
        go_wp2
        go_ret
        refine ⟨_, L.set m (lets last), rfl, ⟨⟨?_, fun g9 hg9 => ?_⟩, ?_, HL2.out⟩, HB.out.setCell HGB.out _⟩
        · rw [← txt_lets last]
          simpa [txt_lets] using HSET.out
        · exact HN.out.base g9 hg9
        · rw [List.length_set, HLEN.out]; omega
  · have hmi : (n : Int) % 2 = 1 := by omega
    clear hm
    go_enter Try.func164, Try.ntmps164
    go_wp2_with fail
    refine (hnum _).mono ?_
    rintro e w0 ⟨rfl, hb0⟩
    go_wp2_with fail
    refine (hnum _).mono ?_
    rintro e w1 ⟨rfl, hb1⟩
    have HB1 := Lib.hid (hb0.trans (hb1.mono hb0.size))
    clear hb1 hb0
    obtain ⟨s1, hs1, hz1⟩ : ∃ s : ByteArray, s = d ∧ s.size ≤ 10 := ⟨_, rfl, by omega⟩
    obtain ⟨s2, hs2, hz2⟩ : ∃ s : ByteArray, s = ⟨#[49]⟩ ∧ s.size ≤ 10 := ⟨_, rfl, by decide⟩
    go_wp2
    rw [← hs2]
    subst hs1
    clear hs2
    have HZ1 := Lib.hid hz1
    have HZ2 := Lib.hid hz2
    clear hz1 hz2 hnum hds
    go_loopg [7, 8] n (fun q ov i wr => ∃ (k : Nat) (L : List (List Nat)), k ≤ n ∧ q + k = n ∧ i = .int .i64 k ∧ New w.heap.size wr 9 ov (strs L) ∧ L.length = 2 * k ∧ (∀ l ∈ L, l.length ≤ 10) ∧ Below w.heap.size w wr)
    case atStart => exact ⟨0, [], by omega, rfl, rfl, New.nil _ _ _, rfl, by simp, HB1.out⟩
    case round =>
      clear HB1
      obtain ⟨k, L, hk, hq, rfl, hnew, hlen, hall, hb⟩ := hrel
      have HN := Lib.hid hnew
      have HALL := Lib.hid hall
      have HB := Lib.hid hb
      have HLEN := Lib.hid hlen
      obtain ⟨ao, co, hov, hao⟩ := hnew.own.view
      rw [strs_len, hlen] at hov hao
      subst hov
      clear hnew hall hb hlen
      by_cases hlt : k < n
      · have hki : (k : Int) < n := by omega
        have HL2 : Hid (∀ l ∈ L ++ [lets s1, lets s2], l.length ≤ 10) := Lib.hid (fun l hl => by
          rcases List.mem_append.1 hl with h9 | h9
          · exact HALL.out l h9
          · simp at h9
            rcases h9 with rfl | rfl
            · rw [lets_len]; exact HZ1.out
            · rw [lets_len]; exact HZ2.out)
        have hcells : ∀ t y, (strs [lets s1, lets s2])[t]? = some y → (wr.alloc (.cells #[.string s1, .string s2] 9)).cell? ((⟨wr.heap.size, 0, none⟩ : Addr).add t) = some y := fun t y hy => by
          rw [add_at, Nat.zero_add]
          have hr := RowAt.new wr 9 #[.string s1, .string s2]
          refine hr.cell t ?_
          rw [← hy]
          match t with
          | 0 => simp [strs, txt_lets]
          | 1 => simp [strs, txt_lets]
          | t + 2 => simp [strs]
        have HCE := Lib.hid hcells
        have HN2 : Hid (New w.heap.size (wr.alloc (.cells #[.string s1, .string s2] 9)) 9 (.slice ao (2 * k) co) (strs L)) := Lib.hid (HN.out.kept ((Below.refl _ _).alloc (Nat.le_refl _) _))
        have HB2 : Hid (Below w.heap.size w (wr.alloc (.cells #[.string s1, .string s2] 9))) := Lib.hid (HB.out.alloc HB.out.size _)
        clear hcells hao
        go_wp2_with (at_builtin; refine wpList_appN rfl (.tmp 22) (.tmp 25) 23 rfl 9 i0 (.string ⟨#[]⟩) 16 Try.underlying23 I0.out.1 I0.out.2.1 I0.out.2.2.1 I0.out.2.2.2 rfl w.heap.size w _ (strs L) rfl HN2.out ⟨wr.heap.size, 0, none⟩ 2 2 (strs [lets s1, lets s2]) rfl rfl HCE.out (strs_one _) HB2.out.size HB2.out (by rw [strs_len, HLEN.out]; omega) (by omega) ?_)
        intro v4 w4 hn4 _ hb4 _ _
        have e4 : strs L ++ strs [lets s1, lets s2] = strs (L ++ [lets s1, lets s2]) := by simp [strs]
        rw [e4] at hn4
        have HN4 := Lib.hid hn4
        have HB4 := Lib.hid hb4
        clear hn4 hb4 e4
        go_wp2
        go_roundg (n - (k + 1))
        case measure => omega
        case rel => exact ⟨k + 1, _, by omega, by omega, by go_num, HN4.out, by have := HLEN.out; simp; omega, HL2.out, HB4.out⟩
      · obtain rfl : k = n := by omega
        obtain ⟨g, hg⟩ := hao (by omega)
        subst hg
        obtain ⟨m, hm⟩ : ∃ m, 2 * k = m + 1 := ⟨2 * k - 1, by omega⟩
        have HM := Lib.hid hm
        have hm9 : ((2 * k : Nat) : Int) - 1 = m := by omega
        have hmk : 2 * (k : Int) - 1 = m := by omega
        have hml : (m : Int) < 2 * (k : Int) := by omega
        have hx : ∃ u, (strs L)[m]? = some u := ⟨_, List.getElem?_eq_getElem (by rw [strs_len, HLEN.out]; omega)⟩
        obtain ⟨u, hu⟩ := hx
        have c1 := HN.out.own.cell m u hu
        have f1 := HN.out.own.free m
        have hset := HN.out.own.set m (.string last)
        rw [string_lets last, strs_set] at hset
        have HSET := Lib.hid hset
        have HGB := Lib.hid (HN.out.base g rfl)
        have HL2 : Hid (∀ l ∈ L.set m (lets last), l.length ≤ 10) := Lib.hid (fun l hl9 => by
          rcases List.mem_or_eq_of_mem_set hl9 with h9 | h9
          · exact HALL.out l h9
          · rw [h9, lets_len]; exact hl)
        clear hset hu hao hm
        go_wp2
        go_ret
        refine ⟨_, L.set m (lets last), rfl, ⟨⟨?_, fun g9 hg9 => ?_⟩, ?_, HL2.out⟩, HB.out.setCell HGB.out _⟩
        · rw [← txt_lets last]
          simpa [txt_lets] using HSET.out
        · exact HN.out.base g9 hg9
        · rw [List.length_set, HLEN.out]; omega
end Go.Proofs.Ytkhglknpcajmiaa
