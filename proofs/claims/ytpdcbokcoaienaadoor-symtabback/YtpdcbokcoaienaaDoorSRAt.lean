/- The contracts of the document's own At, of the law's spoil. -/
import Derived.Test.YtpdcbokcoaienaaDoorSAt
import Derived.Test.YtpdcbokcoaienaaDoorSRow
import Derived.Deep.QuietTactic
import Derived.BigQuiet
namespace Go.Proofs.YtpdcbokcoaienaaDoor
open Go.ChangeShapes Go.WideShapes Go.ChangeAt Go.RowKit
set_option linter.unusedVariables false
set_option linter.unusedSimpArgs false

theorem rat_out (ao : Option Addr) (len cap : Nat) (t : Int) (w : World) (hl : len ≤ 140737488355328) (h : t < 0 ∨ (len : Int) ≤ t) :
    Calls Tryd.prog 35 #[.slice ao len cap, .int .i64 t] w fun e w' => e = .returned (.tuple #[.string ByteArray.empty, .int .i64 11]) ∧ w' = w := by
  by_cases h0 : t < 0
  · clear h
    go_enter Tryd.func35, Tryd.ntmps35
    go_wp2
    go_ret2
    exact ⟨rfl, rfl⟩
  · have h1 : (len : Int) ≤ t := by omega
    clear h
    go_enter Tryd.func35, Tryd.ntmps35
    go_wp2
    go_ret2
    exact ⟨rfl, rfl⟩

set_option maxRecDepth 10000 in
theorem rat_no (b off len cap a : Nat) (bs : Nat → Int) (w : World) (hl : len ≤ 140737488355328)
    (hcell : ∀ i, i < len → w.cell? ⟨b, off + i, none⟩ = some (.int .u8 (bs i))) (ha : a < len) (hz : ∀ i, a ≤ i → i < len → bs i ≠ 0) :
    Calls Tryd.prog 35 #[.slice (some ⟨b, off, none⟩) len cap, .int .i64 a] w fun e w' => e = .returned (.tuple #[.string ByteArray.empty, .int .i64 20]) ∧ w' = w := by
  have HC : Hid (∀ i, i < len → w.cell? ⟨b, off + i, none⟩ = some (.int .u8 (bs i))) := ⟨hcell⟩
  have HZ : Hid (∀ i, a ≤ i → i < len → bs i ≠ 0) := ⟨hz⟩
  clear hcell hz
  go_enter Tryd.func35, Tryd.ntmps35
  go_wp2
  go_loop [6] (fun i => ∃ j : Nat, a ≤ j ∧ j ≤ len ∧ i = .int .i64 j) (fun i => len - (intOf i).toNat)
  case atStart => exact ⟨a, by omega, by omega, rfl⟩
  case round =>
    obtain ⟨j, hj0, hj1, rfl⟩ := hrel
    by_cases hlt : j < len
    · have hcx := HC.out j hlt
      have hne : (bs j == 0) = false := by simpa using HZ.out j hj0 hlt
      go_wp2
      go_round
      case rel => exact ⟨j + 1, by omega, by omega, by go_num⟩
      case measure => simp [intOf]; omega
    · obtain rfl : j = len := by omega
      go_wp2
      go_ret2
      exact ⟨rfl, rfl⟩

set_option maxRecDepth 10000 in
theorem rat_at (b off len cap a j : Nat) (bs : Nat → Int) (w : World) (hl : len ≤ 140737488355328) (hcap : len ≤ cap) (hcp : cap ≤ 9223372036854775807)
    (hcell : ∀ i, i < len → w.cell? ⟨b, off + i, none⟩ = some (.int .u8 (bs i))) (h : TextAt len bs a j) (hj : j - a ≤ 255) :
    Calls Tryd.prog 35 #[.slice (some ⟨b, off, none⟩) len cap, .int .i64 a] w fun e w' => e = .returned (.tuple #[.string (txt bs a j), .int .i64 0]) ∧ w' = w := by
  obtain ⟨h1, h2, h3, h4⟩ := h
  have C := conv_row w (some ⟨b, off + a, none⟩) (j - a) (cap - a) (fun i => bs (a + i)) (.inr ⟨b, off + a, rfl, fun i hi => by rw [Nat.add_assoc]; exact hcell (a + i) (by omega)⟩) (by intro h; cases h)
  have HC : Hid (∀ i, i < len → w.cell? ⟨b, off + i, none⟩ = some (.int .u8 (bs i))) := ⟨hcell⟩
  have HZ : Hid (∀ i, a ≤ i → i < j → bs i ≠ 0) := ⟨h4⟩
  have H0 : Hid (bs j = 0) := ⟨h3⟩
  unfold txt
  have hac : a < cap := by omega
  have hjl : ((j : Int) == (len : Int)) = false := by simp; omega
  clear hcell h3 h4
  go_enter Tryd.func35, Tryd.ntmps35
  go_wp2
  go_loop [6] (fun i => ∃ m : Nat, a ≤ m ∧ m ≤ j ∧ i = .int .i64 m) (fun i => len - (intOf i).toNat)
  case atStart => exact ⟨a, by omega, by omega, rfl⟩
  case round =>
    obtain ⟨m, hj0, hj1, rfl⟩ := hrel
    have hcx := HC.out m (by omega)
    by_cases hlt : m < j
    · have hne : (bs m == 0) = false := by simpa using HZ.out m hj0 hlt
      go_wp2
      go_round
      case rel => exact ⟨m + 1, by omega, by omega, by go_num⟩
      case measure => simp [intOf]; omega
    · obtain rfl : m = j := by omega
      have hne : (bs m == 0) = true := by simpa using H0.out
      go_wp2
      go_ret2
      exact ⟨rfl, rfl⟩

set_option maxRecDepth 10000 in
theorem rat_long (b off len cap a j : Nat) (bs : Nat → Int) (w : World) (hl : len ≤ 140737488355328) (hcap : len ≤ cap) (hcp : cap ≤ 9223372036854775807)
    (hcell : ∀ i, i < len → w.cell? ⟨b, off + i, none⟩ = some (.int .u8 (bs i))) (h : TextAt len bs a j) (hj : 255 < j - a) :
    Calls Tryd.prog 35 #[.slice (some ⟨b, off, none⟩) len cap, .int .i64 a] w fun e w' => e = .returned (.tuple #[.string ByteArray.empty, .int .i64 6]) ∧ w' = w := by
  obtain ⟨h1, h2, h3, h4⟩ := h
  have HC : Hid (∀ i, i < len → w.cell? ⟨b, off + i, none⟩ = some (.int .u8 (bs i))) := ⟨hcell⟩
  have HZ : Hid (∀ i, a ≤ i → i < j → bs i ≠ 0) := ⟨h4⟩
  have H0 : Hid (bs j = 0) := ⟨h3⟩
  have hac : a < cap := by omega
  have hjl : ((j : Int) == (len : Int)) = false := by simp; omega
  clear hcell h3 h4
  go_enter Tryd.func35, Tryd.ntmps35
  go_wp2
  go_loop [6] (fun i => ∃ m : Nat, a ≤ m ∧ m ≤ j ∧ i = .int .i64 m) (fun i => len - (intOf i).toNat)
  case atStart => exact ⟨a, by omega, by omega, rfl⟩
  case round =>
    obtain ⟨m, hj0, hj1, rfl⟩ := hrel
    have hcx := HC.out m (by omega)
    by_cases hlt : m < j
    · have hne : (bs m == 0) = false := by simpa using HZ.out m hj0 hlt
      go_wp2
      go_round
      case rel => exact ⟨m + 1, by omega, by omega, by go_num⟩
      case measure => simp [intOf]; omega
    · obtain rfl : m = j := by omega
      have hne : (bs m == 0) = true := by simpa using H0.out
      have hsub : 255 < (m : Int) - (a : Int) := by omega
      go_wp2
      go_ret2
      exact ⟨rfl, rfl⟩

/-- At of any bytes at any place: what both answer. -/
theorem at_is (len : Nat) (bs : Nat → Int) (t : Int) (hbs : ∀ i, 0 ≤ bs i ∧ bs i < 256) (hl : len ≤ 140737488351232) :
    ∃ (s : ByteArray) (g : Int), (∀ ao cap w, Row w ao len bs → len ≤ cap → cap ≤ 9223372036854775807 → Calls Tryd.prog 64 #[.slice ao len cap, .int .i64 t] w fun e w' => e = .returned (.tuple #[.string s, .int .i64 g]) ∧ w' = w) ∧
      (∀ ao cap w, Row w ao len bs → len ≤ cap → cap ≤ 9223372036854775807 → Calls Tryd.prog 35 #[.slice ao len cap, .int .i64 t] w fun e w' => e = .returned (.tuple #[.string s, .int .i64 g]) ∧ w' = w) := by
  by_cases ho : t < 0 ∨ (len : Int) ≤ t
  · exact ⟨_, 11, fun ao cap w _ _ _ => at_out ao len cap t w (by omega) ho, fun ao cap w _ _ _ => rat_out ao len cap t w (by omega) ho⟩
  · obtain ⟨a, rfl⟩ := Int.eq_ofNat_of_zero_le (show 0 ≤ t by omega)
    have ha : a < len := by omega
    have row : ∀ {w : World} {ao : Option Addr}, Row w ao len bs → ∃ b off, ao = some ⟨b, off, none⟩ ∧ ∀ i, i < len → w.cell? ⟨b, off + i, none⟩ = some (.int .u8 (bs i)) := fun h => by
      rcases h with h | h
      · omega
      · exact h
    rcases text_sorts len bs a with h | ⟨a', j, e, h⟩
    · have hz : ∀ i, a ≤ i → i < len → bs i ≠ 0 := by
        rcases h with h | h | ⟨a', e, _, hz⟩
        · omega
        · omega
        · obtain rfl : a = a' := by omega
          exact hz
      refine ⟨ByteArray.empty, 20, fun ao cap w hr hc hd => ?_, fun ao cap w hr hc hd => ?_⟩
      · obtain ⟨b, off, rfl, hcell⟩ := row hr
        exact at_no b off len cap a bs w (by omega) hbs hc hd hcell ha hz
      · obtain ⟨b, off, rfl, hcell⟩ := row hr
        exact rat_no b off len cap a bs w (by omega) hcell ha hz
    · obtain rfl : a = a' := by omega
      by_cases hj : j - a ≤ 255
      · refine ⟨txt bs a j, 0, fun ao cap w hr hc hd => ?_, fun ao cap w hr hc hd => ?_⟩
        · obtain ⟨b, off, rfl, hcell⟩ := row hr
          exact at_at b off len cap a j bs w (by omega) hbs hc hd hcell h hj
        · obtain ⟨b, off, rfl, hcell⟩ := row hr
          exact rat_at b off len cap a j bs w (by omega) hc hd hcell h hj
      · refine ⟨ByteArray.empty, 6, fun ao cap w hr hc hd => ?_, fun ao cap w hr hc hd => ?_⟩
        · obtain ⟨b, off, rfl, hcell⟩ := row hr
          exact at_long b off len cap a j bs w (by omega) hbs hc hd hcell h (by omega)
        · obtain ⟨b, off, rfl, hcell⟩ := row hr
          exact rat_long b off len cap a j bs w (by omega) hc hd hcell h (by omega)

/-- Ints that lie in memory. -/
def Ints (w : World) (ao : Option Addr) (xs : List Int) : Prop := xs = [] ∨ ∃ g, ao = some ⟨g, 0, none⟩ ∧ ∀ i, i < xs.length → w.cell? ⟨g, i, none⟩ = some (.int .i64 (xs.getD i 0))
theorem OwnI.ints {w : World} {base : Nat} {v : Value} {xs : List Int} (h : OwnI w base v xs) : ∃ ao cap, v = .slice ao xs.length cap ∧ Ints w ao xs := by
  obtain ⟨ao, cap, hv, hc⟩ := h.any
  refine ⟨ao, cap, hv, ?_⟩
  by_cases h0 : 0 < xs.length
  · obtain ⟨g, e, hcc⟩ := hc 0 h0
    exact .inr ⟨g, e, hcc⟩
  · exact .inl (List.eq_nil_of_length_eq_zero (by omega))
theorem Ints.below {w w' : World} {ao : Option Addr} {l : List Int} (h : Ints w ao l) {B : Nat} (hb : Below B w w') (hB : w.heap.size ≤ B) : Ints w' ao l := by
  rcases h with h | ⟨b, e, h⟩
  · exact .inl h
  · refine .inr ⟨b, e, fun i hi => ?_⟩
    have h1 := h i hi
    rw [hb.cell (p := ⟨b, i, none⟩) (Nat.lt_of_lt_of_le (World.block_lt_of_cell? w ⟨b, i, none⟩ h1) hB)]
    exact h1

/-- Bytes that may be written over: so many of them, in block g. -/
def Soft (w : World) (g n : Nat) : Prop := ∃ cur, w.heap[g]? = some (.cells cur 5) ∧ ∀ i, i < n → ∃ z : Int, 0 ≤ z ∧ z < 256 ∧ cur[i]? = some (.int .u8 z)

theorem Soft.set {w : World} {g n i : Nat} (h : Soft w g n) {z : Int} (h0 : 0 ≤ z) (h1 : z < 256) : Soft (w.setCell ⟨g, i, none⟩ (.int .u8 z)) g n := by
  obtain ⟨cur, hc, hz⟩ := h
  refine ⟨cur.set! i (.int .u8 z), ?_, fun j hj => ?_⟩
  · simp [World.setCell, Array.getElem?_modify, hc]
  · by_cases e : j = i
    · subst e
      obtain ⟨y, _, _, hy⟩ := hz j hj
      have hlt : j < cur.size := (Array.getElem?_eq_some_iff.1 hy).1
      exact ⟨z, h0, h1, by simp [hlt]⟩
    · obtain ⟨y, a, b, hy⟩ := hz j hj
      exact ⟨y, a, b, by rw [← hy]; simp [Array.getElem?_setIfInBounds, Ne.symm e]⟩

theorem Own.soft {w : World} {base g n cap : Nat} {xs : List Int} (h : Own w base (.slice (some ⟨g, 0, none⟩) n cap) xs) (hb : ∀ x ∈ xs, 0 ≤ x ∧ x < 256) : Soft w g n := by
  rcases h.2 with ⟨hv, _⟩ | ⟨g', cap', cur, hv, _, hg, _, _, hs, ht⟩
  · cases hv
  · simp only [Value.slice.injEq, Option.some.injEq, Addr.mk.injEq] at hv
    obtain ⟨⟨rfl, _⟩, rfl, rfl⟩ := hv
    refine ⟨cur, hg, fun i hi => ⟨xs[i], hb _ (List.getElem_mem hi) |>.1, hb _ (List.getElem_mem hi) |>.2, ?_⟩⟩
    have : (cur.toList.take (xs.length * 1))[i]? = (xs.map (Value.int .u8))[i]? := by rw [ht]
    rw [List.getElem?_take, if_pos (by omega), Array.getElem?_toList] at this
    rw [this]
    simp [hi]

set_option maxRecDepth 10000 in
theorem spoil_any (ao : Option Addr) (n cap g : Nat) (w : World) (hl : n ≤ 140737488355328) (h : n = 0 ∨ (ao = some ⟨g, 0, none⟩ ∧ Soft w g n)) :
    Calls Tryd.prog 15 #[.slice ao n cap] w fun e w' => e = .returned (.tuple #[]) ∧ Turn (fun k => k = g ∧ 0 < n) w w' := by
  have HH : Hid _ := ⟨h⟩
  clear h
  go_enter Tryd.func15, Tryd.ntmps15
  go_wp2
  go_loopw [2] (fun i wr => ∃ k : Nat, k ≤ n ∧ i = .int .i64 k ∧ Hid ((n = 0 ∨ (ao = some ⟨g, 0, none⟩ ∧ Soft wr g n)) ∧ Turn (fun k => k = g ∧ 0 < n) w wr)) (fun i _ => n - (intOf i).toNat)
  case atStart => exact ⟨0, by omega, rfl, ⟨HH.out, Turn.refl _ _⟩⟩
  case round =>
    obtain ⟨k, hk, rfl, HW⟩ := hrel
    by_cases hlt : k < n
    · obtain ⟨rfl, hS⟩ : ao = some ⟨g, 0, none⟩ ∧ Soft wr g n := by
        rcases HW.out.1 with h | h
        · omega
        · exact h
      have HS : Hid _ := ⟨hS⟩
      obtain ⟨cur, hc, hz⟩ := hS
      obtain ⟨z, hz0, hz1, hzc⟩ := hz k hlt
      have hcx : wr.cell? ⟨g, k, none⟩ = some (.int .u8 z) := by simp [World.cell?, hc, hzc]
      have hfx : wr.frozen? ⟨g, k, none⟩ = false := by simp [World.frozen?, hc]
      clear hz hc hzc cur
      go_wp2
      go_roundw
      case rel => exact ⟨k + 1, hlt, by go_num, ⟨.inr ⟨by first | rfl | trivial, HS.out.set (by omega) (by omega)⟩, HW.out.2.setCell _ ⟨rfl, by omega⟩ _⟩⟩
      case measure => simp [intOf]; omega
    · obtain rfl : k = n := by omega
      go_wp2
      go_end0
      exact ⟨rfl, HW.out.2⟩
end Go.Proofs.YtpdcbokcoaienaaDoor
