/- The contract of the law's spoil. What both Memories answer to Read and to Fetch, in one form. The contract of the law's reads. What is read in pieces is read as in one; numbers that are stored in halves are stored as in one: plainly. Both Memories beside one another, and a call that lies in a block. What both Memories answer to Store and to Load, in one form. -/
import Derived.Test.YtpfmnopokfiheaaDNum
import Derived.Deep.QuietTactic
import Derived.BigQuiet
import Derived.Test.YtpfmnopokfiheaaMFetch
import Derived.Test.YtpfmnopokfiheaaNilWalk
namespace Go.Proofs.Ytpfmnopokfiheaa
open Go.ChangeShapes Go.WideShapes Go.ChangeAt Go.RowKit Go.Maps
set_option linter.unusedVariables false
set_option linter.unusedSimpArgs false

/-- Bytes that may be written over: so many of them, in block g. -/
def Soft (w : World) (g n : Nat) : Prop := ∃ cur, w.heap[g]? = some (.cells cur 5) ∧ ∀ i, i < n → ∃ z : Int, 0 ≤ z ∧ z < 256 ∧ cur[i]? = some (.int .u8 z)

theorem Soft.set {w : World} {g n i : Nat} (h : Soft w g n) {z : Int} (h0 : 0 ≤ z) (h1 : z < 256) : Soft (w.setCell ⟨g, i, none⟩ (.int .u8 z)) g n := by
  obtain ⟨cur, hc, hz⟩ := h
  refine ⟨cur.set! i (.int .u8 z), ?_, fun j hj => ?_⟩
  · simp [World.setCell, Array.getElem?_modify, hc]
  · by_cases e : j = i
    · subst e
      obtain ⟨y, _, _, hy⟩ := hz j hj
      have hlt : j < cur.size := (Array.getElem?_eq_some_iff.1 hy).1
      exact ⟨z, h0, h1, by simp [hlt]⟩
    · obtain ⟨y, a, b, hy⟩ := hz j hj
      exact ⟨y, a, b, by rw [← hy]; simp [Array.getElem?_setIfInBounds, Ne.symm e]⟩

theorem Own.soft {w : World} {base g n cap : Nat} {xs : List Int} (h : Own w base (.slice (some ⟨g, 0, none⟩) n cap) xs) (hb : ∀ x ∈ xs, 0 ≤ x ∧ x < 256) : Soft w g n := by
  rcases h.2 with ⟨hv, _⟩ | ⟨g', cap', cur, hv, _, hg, _, _, hs, ht⟩
  · cases hv
  · simp only [Value.slice.injEq, Option.some.injEq, Addr.mk.injEq] at hv
    obtain ⟨⟨rfl, _⟩, rfl, rfl⟩ := hv
    refine ⟨cur, hg, fun i hi => ⟨xs[i], hb _ (List.getElem_mem hi) |>.1, hb _ (List.getElem_mem hi) |>.2, ?_⟩⟩
    have : (cur.toList.take (xs.length * 1))[i]? = (xs.map (Value.int .u8))[i]? := by rw [ht]
    rw [List.getElem?_take, if_pos (by omega), Array.getElem?_toList] at this
    rw [this]
    simp [hi]

set_option maxRecDepth 10000 in
theorem spoil_any (ao : Option Addr) (n cap g : Nat) (w : World) (hl : n ≤ 140737488355328) (h : n = 0 ∨ (ao = some ⟨g, 0, none⟩ ∧ Soft w g n)) :
    Calls Try.prog 37 #[.slice ao n cap] w fun e w' => e = .returned (.tuple #[]) ∧ Turn (fun k => k = g ∧ 0 < n) w w' := by
  have HH : Hid _ := ⟨h⟩
  clear h
  go_enter Try.func37, Try.ntmps37
  go_wp2
  go_loopw [2] (fun i wr => ∃ k : Nat, k ≤ n ∧ i = .int .i64 k ∧ Hid ((n = 0 ∨ (ao = some ⟨g, 0, none⟩ ∧ Soft wr g n)) ∧ Turn (fun k => k = g ∧ 0 < n) w wr)) (fun i _ => n - (intOf i).toNat)
  case atStart => exact ⟨0, by omega, rfl, ⟨HH.out, Turn.refl _ _⟩⟩
  case round =>
    obtain ⟨k, hk, rfl, HW⟩ := hrel
    by_cases hlt : k < n
    · obtain ⟨rfl, hS⟩ : ao = some ⟨g, 0, none⟩ ∧ Soft wr g n := by
        rcases HW.out.1 with h | h
        · omega
        · exact h
      have HS : Hid _ := ⟨hS⟩
      obtain ⟨cur, hc, hz⟩ := hS
      obtain ⟨z, hz0, hz1, hzc⟩ := hz k hlt
      have hcx : wr.cell? ⟨g, k, none⟩ = some (.int .u8 z) := by simp [World.cell?, hc, hzc]
      have hfx : wr.frozen? ⟨g, k, none⟩ = false := by simp [World.frozen?, hc]
      clear hz hc hzc cur
      go_wp2
      go_roundw
      case rel => exact ⟨k + 1, hlt, by go_num, ⟨.inr ⟨by first | rfl | trivial, HS.out.set (by omega) (by omega)⟩, HW.out.2.setCell ⟨g, k, none⟩ (.inl ⟨rfl, by omega⟩) _⟩⟩
      case measure => simp [intOf]; omega
    · obtain rfl : k = n := by omega
      go_wp2
      go_end0
      exact ⟨rfl, HW.out.2⟩

/-- The bytes that Read tells, its error. -/
def rdX (L : List Pz) (a : Nat) (n : Int) : List Int := if n < 0 ∨ 1048576 < n then [] else if reachB L 4 a n.toNat = true then rdB L 4 a n.toNat else []
def rdE (L : List Pz) (a : Nat) (n : Int) : Int := if n < 0 then 1 else if 1048576 < n then 6 else if reachB L 4 a n.toNat = true then 0 else 61
/-- The bytes that Fetch tells, its error. -/
def ftX (L : List Pz) (a : Nat) (n : Int) : List Int := if n < 1 ∨ 15 < n then [] else rdB L 1 a n.toNat
def ftE (L : List Pz) (a : Nat) (n : Int) : Int := if n < 1 ∨ 15 < n then 1 else if rdB L 1 a n.toNat = [] then 61 else 0

/-- Bytes and an error. -/
def BE (xs : List Int) (E : Int) (w : World) (e : Ending) (w' : World) : Prop := ∃ v, e = .returned (.tuple #[v, .int .i64 E]) ∧ Own w' w.heap.size v xs ∧ Below w.heap.size w w'

theorem mread_be (mb gb a : Nat) (pl : Nat → Nat) (L : List Pz) (n : Int) (w : World) (h : MA w mb gb pl L) (ha : a < 18446744073709551616) :
    Calls Try.prog 20 #[.pointer (some ⟨mb, 0, none⟩), .int .u64 a, .int .i64 n] w fun e w' => BE (rdX L a n) (rdE L a n) w e w' := by
  unfold rdX rdE
  by_cases h1 : n < 0
  · rw [if_pos (.inl h1), if_pos h1]
    refine (read_neg mb gb a n w h.mcell h1).mono ?_
    rintro e w' ⟨rfl, rfl⟩
    exact ⟨_, rfl, Own.nil _ _, Below.refl _ _⟩
  by_cases h2 : 1048576 < n
  · rw [if_pos (.inr h2), if_neg h1, if_pos h2]
    refine (read_big mb gb a n w h.mcell h2).mono ?_
    rintro e w' ⟨rfl, rfl⟩
    exact ⟨_, rfl, Own.nil _ _, Below.refl _ _⟩
  rw [if_neg (by omega), if_neg h1, if_neg h2]
  obtain ⟨m, rfl⟩ : ∃ m : Nat, n = (m : Int) := ⟨n.toNat, by omega⟩
  rw [Int.toNat_natCast]
  refine (read_any mb gb a m pl L w h ha (by omega)).mono ?_
  rintro e w' ⟨⟨h3, h4⟩, hb⟩
  cases hr : reachB L 4 a m with
  | true =>
    rw [if_pos rfl, if_pos rfl]
    obtain ⟨rfl, hg⟩ := h3 hr
    have hl : (rdB L 4 a m).length = m := by rw [rdB_len h.mz]; simpa [reachB] using hr
    refine ⟨_, rfl, ⟨by simp, .inr ⟨w.heap.size, m, _, by rw [hl], Nat.le_refl _, hg, by omega, by unfold maxLen; omega, by simp [hl], ?_⟩⟩, hb⟩
    exact List.take_of_length_le (by simp)
  | false =>
    rw [if_neg (by decide), if_neg (by decide)]
    obtain rfl := h4 hr
    exact ⟨_, rfl, Own.nil _ _, hb⟩

theorem rread_be (rb a : Nat) (lv : Value) (pb : Nat → Nat) (L : List Pz) (n : Int) (w : World) (h : RA w rb lv pb L) (ha : a < 18446744073709551616) (hL : L.length ≤ 1048576) :
    Calls Try.prog 54 #[.pointer (some ⟨rb, 0, none⟩), .int .u64 a, .int .i64 n] w fun e w' => BE (rdX L a n) (rdE L a n) w e w' := by
  unfold rdX rdE
  by_cases h1 : n < 0
  · rw [if_pos (.inl h1), if_pos h1]
    refine (rread_neg rb a n w h1).mono ?_
    rintro e w' ⟨rfl, rfl⟩
    exact ⟨_, rfl, Own.nil _ _, Below.refl _ _⟩
  by_cases h2 : 1048576 < n
  · rw [if_pos (.inr h2), if_neg h1, if_pos h2]
    refine (rread_big rb a n w h2).mono ?_
    rintro e w' ⟨rfl, rfl⟩
    exact ⟨_, rfl, Own.nil _ _, Below.refl _ _⟩
  rw [if_neg (by omega), if_neg h1, if_neg h2]
  obtain ⟨m, rfl⟩ : ∃ m : Nat, n = (m : Int) := ⟨n.toNat, by omega⟩
  rw [Int.toNat_natCast]
  exact rread_any rb a m lv pb L w h ha hL (by omega)

theorem mfetch_be (mb gb a : Nat) (pl : Nat → Nat) (L : List Pz) (n : Int) (w : World) (h : MA w mb gb pl L) (ha : a < 18446744073709551616) :
    Calls Try.prog 22 #[.pointer (some ⟨mb, 0, none⟩), .int .u64 a, .int .i64 n] w fun e w' => BE (ftX L a n) (ftE L a n) w e w' := by
  unfold ftX ftE
  by_cases h1 : n < 1 ∨ 15 < n
  · rw [if_pos h1, if_pos h1]
    refine (fetch_bad mb gb a n w h.mcell h1).mono ?_
    rintro e w' ⟨rfl, rfl⟩
    exact ⟨_, rfl, Own.nil _ _, Below.refl _ _⟩
  rw [if_neg h1, if_neg h1]
  obtain ⟨m, rfl⟩ : ∃ m : Nat, n = (m : Int) := ⟨n.toNat, by omega⟩
  rw [Int.toNat_natCast]
  refine (fetch_any mb gb a m pl L w h ha (by omega)).mono ?_
  rintro e w' ⟨⟨h3, h4⟩, hb⟩
  by_cases hr : rdB L 1 a m = []
  · rw [if_pos hr, hr]
    obtain rfl := h3 hr
    exact ⟨_, rfl, Own.nil _ _, hb⟩
  · rw [if_neg hr]
    obtain ⟨v, rfl, ho⟩ := h4 hr
    exact ⟨v, rfl, ho, hb⟩

theorem rfetch_be (rb a : Nat) (lv : Value) (pb : Nat → Nat) (L : List Pz) (n : Int) (w : World) (h : RA w rb lv pb L) (ha : a < 18446744073709551616) (hL : L.length ≤ 1048576) :
    Calls Try.prog 55 #[.pointer (some ⟨rb, 0, none⟩), .int .u64 a, .int .i64 n] w fun e w' => BE (ftX L a n) (ftE L a n) w e w' := by
  unfold ftX ftE
  by_cases h1 : n < 1 ∨ 15 < n
  · rw [if_pos h1, if_pos h1]
    refine (rfetch_bad rb a n w h1).mono ?_
    rintro e w' ⟨rfl, rfl⟩
    exact ⟨_, rfl, Own.nil _ _, Below.refl _ _⟩
  rw [if_neg h1, if_neg h1]
  obtain ⟨m, rfl⟩ : ∃ m : Nat, n = (m : Int) := ⟨n.toNat, by omega⟩
  rw [Int.toNat_natCast]
  refine (rfetch_any rb a m lv pb L w h ha hL (by omega)).mono ?_
  rintro e w' ⟨⟨h3, h4⟩, hb⟩
  by_cases hr : rdB L 1 a m = []
  · rw [if_pos hr, hr]
    obtain rfl := h3 hr
    exact ⟨_, rfl, Own.nil _ _, hb⟩
  · rw [if_neg hr]
    obtain ⟨v, rfl, ho⟩ := h4 hr
    exact ⟨v, rfl, ho, hb⟩

theorem Own.conv {w : World} {base : Nat} {v : Value} {xs : List Int} (h : Own w base v xs) : Sem.run Try.prog (convert 31 9 v) w = .ok (.string (strOfNums xs)) w := by
  by_cases h0 : xs = []
  · subst h0
    rcases h.2 with ⟨hv, _⟩ | ⟨g, cap, cur, hv, _⟩
    · rw [hv]
      exact conv_row w none 0 0 (fun _ => 0) (.inl rfl) (fun _ => rfl)
    · rw [hv]
      exact conv_row w _ 0 cap (fun _ => 0) (.inl rfl) (fun e => by cases e)
  · have hne : 1 ≤ xs.length := by
      rcases xs with _ | ⟨x, xs⟩
      · exact absurd rfl h0
      · simp
    obtain ⟨g, cap, rfl, _, _, hr⟩ := h.row hne
    have := conv_row w (some ⟨g, 0, none⟩) xs.length cap (fun i => xs.getD i 0) (hr w (Below.refl _ _)) (fun e => by cases e)
    rw [this]
    have e : lst (fun i => xs.getD i 0) xs.length = xs := by
      apply List.ext_getElem
      · rw [lst_len]
      · intro i h1 h2
        simp [lst, h2]
    rw [e]

/-- Bytes of the call's own, as they may be written over. -/
theorem Own.spoilt {w : World} {base : Nat} {v : Value} {xs : List Int} (h : Own w base v xs) (hb : ∀ x ∈ xs, 0 ≤ x ∧ x < 256) : ∃ ao g cap, v = .slice ao xs.length cap ∧ (xs.length = 0 ∨ (ao = some ⟨g, 0, none⟩ ∧ Soft w g xs.length ∧ base ≤ g)) := by
  rcases h.2 with ⟨hv, hn⟩ | ⟨g, cap, cur, hv, hg, _⟩
  · exact ⟨none, 0, 0, by rw [hv, hn], .inl hn⟩
  · refine ⟨_, g, cap, hv, .inr ⟨rfl, ?_, hg⟩⟩
    subst hv
    exact h.soft hb

/-- May this be done with the byte of an address? -/
def Has (L : List Pz) (so : Int) (x : Nat) : Prop := ∃ p, fnd L (x / 4096) = some p ∧ bits .and .i64 p.may so = so
/-- The byte of an address. -/
def byteAt (L : List Pz) (x : Nat) : Int := match fnd L (x / 4096) with | none => 0 | some p => p.B.getD (x % 4096) 0

theorem pcs_has {L : List Pz} {so : Int} : ∀ (f k fr left : Nat), fr < 4096 → smQ (pcs L so f k fr left) = left → ∀ j, j < left → Has L so (k * 4096 + fr + j)
  | 0, k, fr, left, _, h, j, hj => by simp [pcs, smQ] at h; omega
  | f + 1, k, fr, left, hfr, h, j, hj => by
    cases hp : fnd L k with
    | none => rw [pcs_none hp] at h; simp [smQ] at h; omega
    | some p =>
      by_cases hb : bits .and .i64 p.may so = so
      rotate_left
      · rw [pcs_not hp hb] at h; simp [smQ] at h; omega
      rw [pcs_more hp hb (by omega)] at h
      have h' : min left (4096 - fr) + smQ (pcs L so f (k + 1) 0 (left - min left (4096 - fr))) = left := by simpa [smQ] using h
      by_cases hl : fr + j < 4096
      · exact ⟨p, by rw [show (k * 4096 + fr + j) / 4096 = k by omega, hp], hb⟩
      · have h2 := pcs_has (L := L) (so := so) f (k + 1) 0 (left - min left (4096 - fr)) (by omega) (by omega) (j - (4096 - fr)) (by omega)
        rw [show (k + 1) * 4096 + 0 + (j - (4096 - fr)) = k * 4096 + fr + j by omega] at h2
        exact h2
theorem has_pcs {L : List Pz} {so : Int} : ∀ (f k fr left : Nat), fr < 4096 → left < f → (∀ j, j < left → Has L so (k * 4096 + fr + j)) → smQ (pcs L so f k fr left) = left
  | 0, k, fr, left, _, h, _ => by omega
  | f + 1, k, fr, left, hfr, h, hj => by
    by_cases h0 : left = 0
    · subst h0; rw [pcs_end]; rfl
    obtain ⟨p, hp, hb⟩ := hj 0 (by omega)
    rw [show (k * 4096 + fr + 0) / 4096 = k by omega] at hp
    rw [pcs_more hp hb h0, smQ_cons]
    have := has_pcs (L := L) (so := so) f (k + 1) 0 (left - min left (4096 - fr)) (by omega) (by omega) (fun j hj2 => by
      have h3 := hj (min left (4096 - fr) + j) (by omega)
      rw [show k * 4096 + fr + (min left (4096 - fr) + j) = (k + 1) * 4096 + 0 + j by omega] at h3
      exact h3)
    rw [this]
    show min left (4096 - fr) + _ = _
    omega
theorem reach_iff {L : List Pz} {so : Int} {a n : Nat} : reachB L so a n = true ↔ ∀ j, j < n → Has L so (a + j) := by
  have e : a / 4096 * 4096 + a % 4096 = a := by omega
  constructor
  · intro h j hj
    have := pcs_has (L := L) (so := so) (n + 1) (a / 4096) (a % 4096) n (Nat.mod_lt _ (by omega)) (by simpa [reachB, pcsA] using h) j hj
    rw [e] at this
    exact this
  · intro h
    have := has_pcs (L := L) (so := so) (n + 1) (a / 4096) (a % 4096) n (Nat.mod_lt _ (by omega)) (by omega) (fun j hj => by rw [e]; exact h j hj)
    simp [reachB, pcsA, this]

theorem pcs_bytes {L : List Pz} (hz : Mz L) {so : Int} : ∀ (f k fr left : Nat), fr < 4096 → smQ (pcs L so f k fr left) = left → flQ (pcs L so f k fr left) = (List.range left).map (fun j => byteAt L (k * 4096 + fr + j))
  | 0, k, fr, left, _, h => by
    simp [pcs, smQ] at h
    subst h
    rfl
  | f + 1, k, fr, left, hfr, h => by
    by_cases h0 : left = 0
    · subst h0; rw [pcs_end]; rfl
    cases hp : fnd L k with
    | none => rw [pcs_none hp] at h; simp [smQ] at h; omega
    | some p =>
      by_cases hb : bits .and .i64 p.may so = so
      rotate_left
      · rw [pcs_not hp hb] at h; simp [smQ] at h; omega
      rw [pcs_more hp hb h0] at h ⊢
      obtain ⟨q, hq⟩ : ∃ q, q = min left (4096 - fr) := ⟨_, rfl⟩
      rw [← hq] at h ⊢
      rw [smQ_cons] at h
      have h' : q + smQ (pcs L so f (k + 1) 0 (left - q)) = left := h
      have hB := (hz.ok p (fnd_mem hp).1).len
      rw [flQ_cons, pcs_bytes hz f (k + 1) 0 (left - q) (by omega) (by omega)]
      have e1 : left = q + (left - q) := by omega
      have e2 : (List.range left).map (fun j => byteAt L (k * 4096 + fr + j)) = (List.range q).map (fun j => byteAt L (k * 4096 + fr + j)) ++ (List.range (left - q)).map (fun j => byteAt L (k * 4096 + fr + (q + j))) := by
        rw [e1, List.range_add, List.map_append, List.map_map]
        rw [← e1]
        rfl
      rw [e2]
      refine congr (congrArg HAppend.hAppend ?_) ?_
      · apply List.ext_getElem
        · simp [byQ]; omega
        · intro i h1 h2
          have hi : i < q := by simpa using h2
          simp only [byQ, List.getElem_take, List.getElem_drop, List.getElem_map, List.getElem_range]
          unfold byteAt
          rw [show (k * 4096 + fr + i) / 4096 = k by omega, hp, show (k * 4096 + fr + i) % 4096 = fr + i by omega]
          simp [show fr + i < p.B.length by omega]
      · by_cases hl : left - q = 0
        · rw [hl, List.range_zero, List.map_nil, List.map_nil]
        · apply List.map_congr_left
          intro j hj
          rw [show k * 4096 + fr + (q + j) = (k + 1) * 4096 + 0 + j by omega]
theorem rdB_is {L : List Pz} (hz : Mz L) {so : Int} {a n : Nat} (h : reachB L so a n = true) : rdB L so a n = (List.range n).map (fun j => byteAt L (a + j)) := by
  have := pcs_bytes hz (so := so) (n + 1) (a / 4096) (a % 4096) n (Nat.mod_lt _ (by omega)) (by simpa [reachB, pcsA] using h)
  rw [show a / 4096 * 4096 + a % 4096 = a by omega] at this
  exact this

/-- What is read in one is read in pieces. -/
theorem reach_cut {L : List Pz} {so : Int} {a n k : Nat} (h : reachB L so a (n + k) = true) : reachB L so a n = true ∧ reachB L so (a + n) k = true := by
  rw [reach_iff] at h
  exact ⟨reach_iff.2 fun j hj => h j (by omega), reach_iff.2 fun j hj => by rw [Nat.add_assoc]; exact h (n + j) (by omega)⟩
theorem reach_join {L : List Pz} {so : Int} {a n k : Nat} (h : reachB L so a n = true) (h' : reachB L so (a + n) k = true) : reachB L so a (n + k) = true := by
  rw [reach_iff] at h h' ⊢
  intro j hj
  by_cases c : j < n
  · exact h j c
  · have := h' (j - n) (by omega)
    rw [show a + n + (j - n) = a + j by omega] at this
    exact this
theorem rdB_cut {L : List Pz} (hz : Mz L) {so : Int} {a n k : Nat} (h : reachB L so a (n + k) = true) : rdB L so a (n + k) = rdB L so a n ++ rdB L so (a + n) k := by
  obtain ⟨h1, h2⟩ := reach_cut h
  rw [rdB_is hz h, rdB_is hz h1, rdB_is hz h2, List.range_add, List.map_append, List.map_map]
  congr 1
  apply List.map_congr_left
  intro j _
  simp only [Function.comp]
  rw [Nat.add_assoc]
theorem reach_zero (L : List Pz) (so : Int) (a : Nat) : reachB L so a 0 = true := reach_iff.2 fun j hj => by omega
/-- An address behind n bytes, as uint64 has it. -/
def adW (a n : Nat) : Nat := (a + n) % 18446744073709551616
theorem adW_lt (a n : Nat) : adW a n < 18446744073709551616 := Nat.mod_lt _ (by omega)
theorem adW_is {L : List Pz} (hz : Mz L) {so : Int} {a n : Nat} (ha : a < 18446744073709551616) (hn : n = 0 ∨ reachB L so a n = true) : adW a n = a + n := by
  unfold adW
  rcases hn with rfl | h
  · omega
  · by_cases h0 : n = 0
    · omega
    · have : a + n ≤ 140737488355328 := Classical.byContradiction fun c => by rw [reach_top hz (by omega) (by omega)] at h; cases h
      omega
theorem rdE_nat (L : List Pz) (a n : Nat) (hn : n ≤ 1048576) : rdE L a (n : Int) = if reachB L 4 a n = true then 0 else 61 := by
  unfold rdE
  rw [if_neg (by omega), if_neg (by omega), Int.toNat_natCast]
theorem rdX_nat (L : List Pz) (a n : Nat) (hn : n ≤ 1048576) (h : reachB L 4 a n = true) : rdX L a (n : Int) = rdB L 4 a n := by
  unfold rdX
  rw [if_neg (by omega), Int.toNat_natCast, if_pos h]
/-- Where all is read, the pieces are read, and are all. -/
theorem pieces_ok {L : List Pz} (hz : Mz L) {a n k : Nat} (ha : a < 18446744073709551616) (hn : n + k ≤ 1048576) (h : rdE L a ((n + k : Nat) : Int) = 0) :
    rdE L a (n : Int) = 0 ∧ rdE L (adW a n) (k : Int) = 0 ∧ rdX L a ((n + k : Nat) : Int) = rdX L a (n : Int) ++ rdX L (adW a n) (k : Int) := by
  rw [rdE_nat L a (n + k) hn] at h
  have hr : reachB L 4 a (n + k) = true := by
    by_cases c : reachB L 4 a (n + k) = true
    · exact c
    · rw [if_neg c] at h; cases h
  obtain ⟨h1, h2⟩ := reach_cut hr
  have e := adW_is hz ha (.inr h1)
  rw [rdE_nat L a n (by omega), if_pos h1, e, rdE_nat L _ k (by omega), if_pos h2, rdX_nat L a (n + k) hn hr, rdX_nat L a n (by omega) h1, rdX_nat L _ k (by omega) h2]
  exact ⟨rfl, rfl, rdB_cut hz hr⟩
/-- Where the pieces are read, all is read. -/
theorem pieces_no {L : List Pz} (hz : Mz L) {a n k : Nat} (ha : a < 18446744073709551616) (hn : n + k ≤ 1048576) (h0 : 0 < n) (h1 : rdE L a (n : Int) = 0) (h2 : rdE L (adW a n) (k : Int) = 0) : rdE L a ((n + k : Nat) : Int) = 0 := by
  rw [rdE_nat L a n (by omega)] at h1
  rw [rdE_nat L _ k (by omega)] at h2
  have r1 : reachB L 4 a n = true := by
    by_cases c : reachB L 4 a n = true
    · exact c
    · rw [if_neg c] at h1; cases h1
  rw [adW_is hz ha (.inr r1)] at h2
  have r2 : reachB L 4 (a + n) k = true := by
    by_cases c : reachB L 4 (a + n) k = true
    · exact c
    · rw [if_neg c] at h2; cases h2
  rw [rdE_nat L a (n + k) hn, if_pos (reach_join r1 r2)]

theorem fnd_keys : ∀ {L L' : List Pz}, L'.map (fun p => (p.k, p.may)) = L.map (fun p => (p.k, p.may)) → ∀ k, (fnd L' k).map (fun p => p.may) = (fnd L k).map (fun p => p.may)
  | [], [], _, k => rfl
  | [], _ :: _, h, k => by simp at h
  | _ :: _, [], h, k => by simp at h
  | p :: L, q :: L', h, k => by
    simp only [List.map_cons, List.cons.injEq, Prod.mk.injEq] at h
    unfold fnd
    rw [List.find?_cons, List.find?_cons, h.1.1]
    by_cases e : (p.k == k) = true
    · rw [e]; simp [h.1.2]
    · rw [Bool.not_eq_true] at e
      rw [e]
      exact fnd_keys h.2 k
theorem has_key {L L' : List Pz} (h : L'.map (fun p => (p.k, p.may)) = L.map (fun p => (p.k, p.may))) {so : Int} {x : Nat} (hx : Has L so x) : Has L' so x := by
  obtain ⟨p, hp, hb⟩ := hx
  have := fnd_keys h (x / 4096)
  rw [hp] at this
  cases hq : fnd L' (x / 4096) with
  | none => rw [hq] at this; cases this
  | some q =>
    rw [hq] at this
    simp at this
    exact ⟨q, hq, by rw [this]; exact hb⟩
theorem reach_key {L L' : List Pz} (h : L'.map (fun p => (p.k, p.may)) = L.map (fun p => (p.k, p.may))) {so : Int} {a n : Nat} (hr : reachB L so a n = true) : reachB L' so a n = true := by
  rw [reach_iff] at hr ⊢
  exact fun j hj => has_key h (hr j hj)

theorem btL_len (v : Int) (n : Nat) : (btL v n).length = n := by simp [btL]
theorem btL_halves (v : Int) : btL v 8 = btL (v % 4294967296) 4 ++ btL (v / 4294967296) 4 := by
  show [bt v 0, bt v 1, bt v 2, bt v 3, bt v 4, bt v 5, bt v 6, bt v 7] = [bt (v % 4294967296) 0, bt (v % 4294967296) 1, bt (v % 4294967296) 2, bt (v % 4294967296) 3, bt (v / 4294967296) 0, bt (v / 4294967296) 1, bt (v / 4294967296) 2, bt (v / 4294967296) 3]
  simp only [bt, List.cons.injEq, and_true]
  refine ⟨?_, ?_, ?_, ?_, ?_, ?_, ?_, ?_⟩ <;> omega

theorem givE_8 {L : List Pz} {a n : Nat} (hn : n ≤ 8) (h : givE L 2 61 a n = 0) : reachB L 2 a n = true := by
  unfold givE at h
  rw [if_neg (by omega)] at h
  by_cases c : reachB L 2 a n = true
  · exact c
  · rw [if_neg c] at h; cases h
theorem givL_8 {L : List Pz} (hz : Mz L) {a : Nat} {bl : List Int} (hn : bl.length ≤ 8) (h : reachB L 2 a bl.length = true) : givL L 2 61 a bl = putN L a bl := by
  unfold givL
  rw [if_neg (by omega), if_pos h, put_is hz h]
/-- A number that is stored in halves. -/
theorem halves_ok {L : List Pz} (hz : Mz L) {a : Nat} (ha : a < 18446744073709551616) {v : Int} (h : givE L 2 61 a 8 = 0) (hz' : Mz (givL L 2 61 a (btL (v % 4294967296) 4))) :
    givE L 2 61 a 4 = 0 ∧ givE (givL L 2 61 a (btL (v % 4294967296) 4)) 2 61 (adW a 4) 4 = 0 ∧ givL L 2 61 a (btL v 8) = givL (givL L 2 61 a (btL (v % 4294967296) 4)) 2 61 (adW a 4) (btL (v / 4294967296) 4) := by
  have hr := givE_8 (by omega) h
  obtain ⟨h1, h2⟩ := reach_cut (n := 4) (k := 4) hr
  have hk := givL_key L 2 61 a (btL (v % 4294967296) 4)
  have h3 := reach_key hk h2
  rw [adW_is hz ha (.inr h1)]
  refine ⟨by unfold givE; rw [if_neg (by omega), if_pos h1], by unfold givE; rw [if_neg (by omega), if_pos h3], ?_⟩
  rw [givL_8 hz' (a := a + 4) (by rw [btL_len]; omega) (by rw [btL_len]; exact h3), givL_8 hz (by rw [btL_len]; omega) (by rw [btL_len]; exact hr), givL_8 hz (by rw [btL_len]; omega) (by rw [btL_len]; exact h1), btL_halves v, putN_append, btL_len]

/-- Both Memories, their blocks apart. -/
structure Pr (w : World) (mb gb : Nat) (pl : Nat → Nat) (L : List Pz) (rb : Nat) (lv : Value) (pb : Nat → Nat) (M : List Pz) : Prop where
  m : MA w mb gb pl L
  r : RA w rb lv pb M
  ap : ∀ b, MS mb gb pl L b → ¬ RS rb lv pb M b
/-- Their blocks. -/
def PB (mb gb : Nat) (pl : Nat → Nat) (L : List Pz) (rb : Nat) (lv : Value) (pb : Nat → Nat) (M : List Pz) (b : Nat) : Prop := MS mb gb pl L b ∨ RS rb lv pb M b
theorem Pr.lt {w : World} {mb gb : Nat} {pl : Nat → Nat} {L : List Pz} {rb : Nat} {lv : Value} {pb : Nat → Nat} {M : List Pz} (h : Pr w mb gb pl L rb lv pb M) {b : Nat} (hb : PB mb gb pl L rb lv pb M b) : b < w.heap.size := by
  rcases hb with hb | hb
  · exact h.m.slt hb
  · rcases hb with rfl | hb | ⟨p, hp, rfl⟩
    · exact h.r.rlt
    · exact h.r.vlt hb
    · exact h.r.blt hp
theorem Pr.below {w w' : World} {mb gb : Nat} {pl : Nat → Nat} {L : List Pz} {rb : Nat} {lv : Value} {pb : Nat → Nat} {M : List Pz} (h : Pr w mb gb pl L rb lv pb M) (hb : Below w.heap.size w w') : Pr w' mb gb pl L rb lv pb M :=
  ⟨h.m.below hb, h.r.below hb, h.ap⟩
theorem Pr.turn {w w' : World} {mb gb : Nat} {pl : Nat → Nat} {L : List Pz} {rb : Nat} {lv : Value} {pb : Nat → Nat} {M : List Pz} (h : Pr w mb gb pl L rb lv pb M) {S : Nat → Prop} (ht : Turn S w w') (hs : ∀ b, PB mb gb pl L rb lv pb M b → ¬ S b) : Pr w' mb gb pl L rb lv pb M :=
  ⟨h.m.turn ht fun b hb => hs b (.inl hb), h.r.turn ht fun b hb => hs b (.inr hb), h.ap⟩

/-- Where a step is: w0 the world that it began in, S the blocks of the Memories there. -/
structure St2 (w0 : World) (S : Nat → Prop) (w : World) (mb gb : Nat) (pl : Nat → Nat) (L : List Pz) (rb : Nat) (lv : Value) (pb : Nat → Nat) (M : List Pz) (B : Nat) (k : Int) (a : Nat) (n may x : Int) (bv : Value) : Prop where
  pr : Pr w mb gb pl L rb lv pb M
  op : OpC w B k a n may x bv
  lt : B < w.heap.size
  nb : ¬ PB mb gb pl L rb lv pb M B
  tu : Turn S w0 w
  new : ∀ b, PB mb gb pl L rb lv pb M b → S b ∨ w0.heap.size ≤ b
theorem OpC.turn {w w' : World} {B : Nat} {k : Int} {a : Nat} {n may x : Int} {b : Value} (h : OpC w B k a n may x b) (hl : B < w.heap.size) {S : Nat → Prop} (ht : Turn S w w') (hs : ¬ S B) : OpC w' B k a n may x b := by
  have e : ∀ o, w'.cell? ⟨B, o, none⟩ = w.cell? ⟨B, o, none⟩ := fun o => World.cell?_of_block (ht.block B hl hs)
  exact ⟨(e 0).trans h.c0, (e 1).trans h.c1, (e 2).trans h.c2, (e 3).trans h.c3, (e 4).trans h.c4, (e 5).trans h.c5⟩
theorem St2.bel {w0 : World} {S : Nat → Prop} {w w' : World} {mb gb : Nat} {pl : Nat → Nat} {L : List Pz} {rb : Nat} {lv : Value} {pb : Nat → Nat} {M : List Pz} {B : Nat} {k : Int} {a : Nat} {n may x : Int} {bv : Value} (h : St2 w0 S w mb gb pl L rb lv pb M B k a n may x bv) (hb : Below w.heap.size w w') : St2 w0 S w' mb gb pl L rb lv pb M B k a n may x bv :=
  ⟨h.pr.below hb, h.op.bel h.lt hb, Nat.lt_of_lt_of_le h.lt hb.size, h.nb, h.tu.trans' (Turn.of_below hb (fun _ => False)) (fun _ _ e => e.elim), h.new⟩
/-- Behind a call of the program's Memory. -/
theorem St2.nx {w0 : World} {S : Nat → Prop} {w w' : World} {mb gb : Nat} {pl : Nat → Nat} {L L' : List Pz} {rb : Nat} {lv : Value} {pb : Nat → Nat} {M : List Pz} {B : Nat} {k : Int} {a : Nat} {n may x : Int} {bv : Value} (h : St2 w0 S w mb gb pl L rb lv pb M B k a n may x bv) (hx : Nx w w' mb gb pl L L') : ∃ pl', St2 w0 S w' mb gb pl' L' rb lv pb M B k a n may x bv := by
  obtain ⟨pl', h1, h2, h3⟩ := hx
  refine ⟨pl', ⟨⟨h1, h.pr.r.turn h2 fun b hb hm => h.pr.ap b hm hb, fun b hb hr => ?_⟩, h.op.turn h.lt h2 fun hb => h.nb (.inl hb), Nat.lt_of_lt_of_le h.lt h2.size, fun hb => ?_, h.tu.trans' h2 fun i hi hs => ?_, fun b hb => ?_⟩⟩
  · rcases h3 b hb with h4 | h4
    · exact h.pr.ap b h4 hr
    · have := h.pr.lt (.inr hr); omega
  · rcases hb with hb | hb
    · rcases h3 B hb with h4 | h4
      · exact h.nb (.inl h4)
      · have := h.lt; omega
    · exact h.nb (.inr hb)
  · rcases h.new i (.inl hs) with h5 | h5
    · exact h5
    · omega
  · rcases hb with hb | hb
    · rcases h3 b hb with h4 | h4
      · exact h.new b (.inl h4)
      · exact .inr (by have := h.tu.size; omega)
    · exact h.new b (.inr hb)
/-- Behind a call of the document's Memory. -/
theorem St2.rx {w0 : World} {S : Nat → Prop} {w w' : World} {mb gb : Nat} {pl : Nat → Nat} {L : List Pz} {rb : Nat} {lv : Value} {pb : Nat → Nat} {M M' : List Pz} {B : Nat} {k : Int} {a : Nat} {n may x : Int} {bv : Value} (h : St2 w0 S w mb gb pl L rb lv pb M B k a n may x bv) (hx : RX w w' rb lv pb M M') : ∃ lv' pb', St2 w0 S w' mb gb pl L rb lv' pb' M' B k a n may x bv := by
  obtain ⟨lv', pb', h1, h2, h3⟩ := hx
  refine ⟨lv', pb', ⟨⟨h.pr.m.turn h2 fun b hb hm => h.pr.ap b hb hm, h1, fun b hb hr => ?_⟩, h.op.turn h.lt h2 fun hb => h.nb (.inr hb), Nat.lt_of_lt_of_le h.lt h2.size, fun hb => ?_, h.tu.trans' h2 fun i hi hs => ?_, fun b hb => ?_⟩⟩
  · rcases h3 b hr with h4 | h4
    · exact h.pr.ap b hb h4
    · have := h.pr.lt (.inl hb); omega
  · rcases hb with hb | hb
    · exact h.nb (.inl hb)
    · rcases h3 B hb with h4 | h4
      · exact h.nb (.inr h4)
      · have := h.lt; omega
  · rcases h.new i (.inr hs) with h5 | h5
    · exact h5
    · omega
  · rcases hb with hb | hb
    · exact h.new b (.inl hb)
    · rcases h3 b hb with h4 | h4
      · exact h.new b (.inr h4)
      · exact .inr (by have := h.tu.size; omega)
/-- Pages that have the same numbers. -/
theorem nx_k {w w' : World} {mb gb : Nat} {pl : Nat → Nat} {L L' : List Pz} (hk : L'.map (fun p => p.k) = L.map (fun p => p.k)) (h : MA w' mb gb pl L') (ht : Turn (MS mb gb pl L) w w') : Nx w w' mb gb pl L L' :=
  ⟨pl, h, ht, fun b hb => .inl (MS_k hk hb)⟩
theorem rx_k {w w' : World} {rb : Nat} {lv : Value} {pb : Nat → Nat} {L L' : List Pz} (hk : L'.map (fun p => p.k) = L.map (fun p => p.k)) (h : RA w' rb lv pb L') (ht : Turn (RS rb lv pb L) w w') : RX w w' rb lv pb L L' :=
  ⟨lv, pb, h, ht, fun b hb => .inl (RS_k hk hb)⟩
theorem givL_k (L : List Pz) (so ref : Int) (a : Nat) (bl : List Int) : (givL L so ref a bl).map (fun p => p.k) = L.map (fun p => p.k) := key_k (givL_key L so ref a bl)
theorem k_len {L L' : List Pz} (h : L'.map (fun p => p.k) = L.map (fun p => p.k)) : L'.length = L.length := by
  have := congrArg List.length h
  simpa using this

/-- What a step leaves. -/
def SX (w w' : World) (mb gb : Nat) (pl : Nat → Nat) (L : List Pz) (rb : Nat) (lv : Value) (pb : Nat → Nat) : Prop :=
  ∃ pl' lv' pb' L', Pr w' mb gb pl' L' rb lv' pb' L' ∧ L'.length ≤ 1024 ∧ Turn (PB mb gb pl L rb lv pb L) w w' ∧ ∀ b, PB mb gb pl' L' rb lv' pb' L' b → PB mb gb pl L rb lv pb L b ∨ w.heap.size ≤ b
theorem St2.sx {w0 : World} {w : World} {mb gb : Nat} {pl pl0 : Nat → Nat} {L L' : List Pz} {rb : Nat} {lv lv0 : Value} {pb pb0 : Nat → Nat} {B : Nat} {k : Int} {a : Nat} {n may x : Int} {bv : Value} (h : St2 w0 (PB mb gb pl0 L rb lv0 pb0 L) w mb gb pl L' rb lv pb L' B k a n may x bv) (hl : L'.length ≤ 1024) : SX w0 w mb gb pl0 L rb lv0 pb0 :=
  ⟨pl, lv, pb, L', h.pr, hl, h.tu, h.new⟩
/-- A step begins: its call is laid into a block. -/
theorem st2_start {w : World} {mb gb : Nat} {pl : Nat → Nat} {L : List Pz} {rb : Nat} {lv : Value} {pb : Nat → Nat} (h : Pr w mb gb pl L rb lv pb L) (k : Int) (a : Nat) (n may x : Int) (bv : Value) (t : TypeId) :
    St2 w (PB mb gb pl L rb lv pb L) (w.alloc (.cells #[.int .i64 k, .int .u64 (a : Int), .int .i64 n, .int .i64 may, .int .u64 x, bv] t)) mb gb pl L rb lv pb L w.heap.size k a n may x bv :=
  ⟨h.below ((Below.refl _ _).alloc (Nat.le_refl _) _), ⟨by simp, by simp, by simp, by simp, by simp, by simp⟩, by simp, fun hb => by have := h.lt hb; omega, (Turn.refl _ _).alloc _, fun b hb => .inl hb⟩

def stoE (L : List Pz) (a : Nat) (n : Int) : Int := if isSizeB n = true then givE L 2 61 a n.toNat else 1
def stoL (L : List Pz) (a : Nat) (n x : Int) : List Pz := if isSizeB n = true then givL L 2 61 a (btL x n.toNat) else L
def loV (L : List Pz) (a : Nat) (n : Int) : Int := if isSizeB n = true then (if reachB L 4 a n.toNat = true then ldN (rdB L 4 a n.toNat) n.toNat else 0) else 0
def loE (L : List Pz) (a : Nat) (n : Int) : Int := if isSizeB n = true then (if reachB L 4 a n.toNat = true then 0 else 61) else 1
theorem stoL_k (L : List Pz) (a : Nat) (n x : Int) : (stoL L a n x).map (fun p => p.k) = L.map (fun p => p.k) := by
  unfold stoL
  split
  · exact givL_k _ _ _ _ _
  · rfl
theorem size_nat {n : Int} (h : isSizeB n = true) : ∃ m : Nat, n = (m : Int) := ⟨n.toNat, by unfold isSizeB at h; simp at h; omega⟩

theorem mstore_nx (mb gb a : Nat) (pl : Nat → Nat) (L : List Pz) (n x : Int) (w : World) (h : MA w mb gb pl L) (ha : a < 18446744073709551616) :
    Calls Try.prog 21 #[.pointer (some ⟨mb, 0, none⟩), .int .u64 a, .int .i64 n, .int .u64 x] w fun e w' => e = .returned (.int .i64 (stoE L a n)) ∧ Nx w w' mb gb pl L (stoL L a n x) := by
  have hk := stoL_k L a n x
  unfold stoE
  unfold stoL at hk ⊢
  cases hn : isSizeB n with
  | false =>
    rw [if_neg (by decide), if_neg (by decide)]
    refine (store_bad _ a n x w hn).mono ?_
    rintro e w' ⟨rfl, rfl⟩
    exact ⟨rfl, Nx.same h (Below.refl _ _)⟩
  | true =>
    rw [if_pos rfl, if_pos rfl]
    rw [hn, if_pos rfl] at hk
    obtain ⟨m, rfl⟩ := size_nat hn
    rw [Int.toNat_natCast] at hk ⊢
    refine (store_any mb gb a m pl L x w h ha hn).mono ?_
    rintro e w' ⟨rfl, hm, ht⟩
    exact ⟨rfl, nx_k hk hm ht⟩
theorem rstore_rx (rb a : Nat) (lv : Value) (pb : Nat → Nat) (L : List Pz) (n x : Int) (w : World) (h : RA w rb lv pb L) (ha : a < 18446744073709551616) (hL : L.length ≤ 1048576) (hx : 0 ≤ x ∧ x < 18446744073709551616) :
    Calls Try.prog 34 #[.pointer (some ⟨rb, 0, none⟩), .int .u64 a, .int .i64 n, .int .u64 x] w fun e w' => e = .returned (.int .i64 (stoE L a n)) ∧ RX w w' rb lv pb L (stoL L a n x) := by
  have hk := stoL_k L a n x
  unfold stoE
  unfold stoL at hk ⊢
  cases hn : isSizeB n with
  | false =>
    rw [if_neg (by decide), if_neg (by decide)]
    refine (rstore_bad rb a n x w hn).mono ?_
    rintro e w' ⟨rfl, rfl⟩
    exact ⟨rfl, RX.same h (Below.refl _ _)⟩
  | true =>
    rw [if_pos rfl, if_pos rfl]
    rw [hn, if_pos rfl] at hk
    obtain ⟨m, rfl⟩ := size_nat hn
    rw [Int.toNat_natCast] at hk ⊢
    refine (rstore_any rb a m x lv pb L w h ha hL hx hn).mono ?_
    rintro e w' ⟨rfl, hm, ht⟩
    exact ⟨rfl, rx_k hk hm ht⟩
theorem mload_be (mb gb a : Nat) (pl : Nat → Nat) (L : List Pz) (n : Int) (w : World) (h : MA w mb gb pl L) (ha : a < 18446744073709551616) :
    Calls Try.prog 23 #[.pointer (some ⟨mb, 0, none⟩), .int .u64 a, .int .i64 n] w fun e w' => e = .returned (.tuple #[.int .u64 (loV L a n), .int .i64 (loE L a n)]) ∧ Below w.heap.size w w' := by
  unfold loV loE
  cases hn : isSizeB n with
  | false =>
    rw [if_neg (by decide), if_neg (by decide)]
    refine (load_bad mb gb a n w h.mcell hn).mono ?_
    rintro e w' ⟨rfl, rfl⟩
    exact ⟨rfl, Below.refl _ _⟩
  | true =>
    rw [if_pos rfl, if_pos rfl]
    obtain ⟨m, rfl⟩ := size_nat hn
    rw [Int.toNat_natCast]
    refine (load_any mb gb a m pl L w h ha hn).mono ?_
    rintro e w' ⟨rfl, hb⟩
    refine ⟨?_, hb⟩
    split <;> rfl
theorem rload_be (rb a : Nat) (lv : Value) (pb : Nat → Nat) (L : List Pz) (n : Int) (w : World) (h : RA w rb lv pb L) (ha : a < 18446744073709551616) (hL : L.length ≤ 1048576) :
    Calls Try.prog 33 #[.pointer (some ⟨rb, 0, none⟩), .int .u64 a, .int .i64 n] w fun e w' => e = .returned (.tuple #[.int .u64 (loV L a n), .int .i64 (loE L a n)]) ∧ Below w.heap.size w w' := by
  unfold loV loE
  cases hn : isSizeB n with
  | false =>
    rw [if_neg (by decide), if_neg (by decide)]
    refine (rload_bad rb a n w hn).mono ?_
    rintro e w' ⟨rfl, rfl⟩
    exact ⟨rfl, Below.refl _ _⟩
  | true =>
    rw [if_pos rfl, if_pos rfl]
    obtain ⟨m, rfl⟩ := size_nat hn
    rw [Int.toNat_natCast]
    refine (rload_any rb a m lv pb L w h ha hL hn).mono ?_
    rintro e w' ⟨rfl, hb⟩
    refine ⟨?_, hb⟩
    split <;> rfl
end Go.Proofs.Ytpfmnopokfiheaa
