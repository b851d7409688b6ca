/- What is read in pieces is read as in one; numbers that are stored in halves are stored as in one: plainly. -/
import Derived.Test.YtpfmnopokfiheaaLReads
namespace Go.Proofs.Ytpfmnopokfiheaa
open Go.ChangeShapes Go.WideShapes Go.ChangeAt Go.RowKit Go.Maps
set_option linter.unusedVariables false
set_option linter.unusedSimpArgs false

/-- May this be done with the byte of an address? -/
def Has (L : List Pz) (so : Int) (x : Nat) : Prop := ∃ p, fnd L (x / 4096) = some p ∧ bits .and .i64 p.may so = so
/-- The byte of an address. -/
def byteAt (L : List Pz) (x : Nat) : Int := match fnd L (x / 4096) with | none => 0 | some p => p.B.getD (x % 4096) 0

theorem pcs_has {L : List Pz} {so : Int} : ∀ (f k fr left : Nat), fr < 4096 → smQ (pcs L so f k fr left) = left → ∀ j, j < left → Has L so (k * 4096 + fr + j)
  | 0, k, fr, left, _, h, j, hj => by simp [pcs, smQ] at h; omega
  | f + 1, k, fr, left, hfr, h, j, hj => by
    cases hp : fnd L k with
    | none => rw [pcs_none hp] at h; simp [smQ] at h; omega
    | some p =>
      by_cases hb : bits .and .i64 p.may so = so
      rotate_left
      · rw [pcs_not hp hb] at h; simp [smQ] at h; omega
      rw [pcs_more hp hb (by omega)] at h
      have h' : min left (4096 - fr) + smQ (pcs L so f (k + 1) 0 (left - min left (4096 - fr))) = left := by simpa [smQ] using h
      by_cases hl : fr + j < 4096
      · exact ⟨p, by rw [show (k * 4096 + fr + j) / 4096 = k by omega, hp], hb⟩
      · have h2 := pcs_has (L := L) (so := so) f (k + 1) 0 (left - min left (4096 - fr)) (by omega) (by omega) (j - (4096 - fr)) (by omega)
        rw [show (k + 1) * 4096 + 0 + (j - (4096 - fr)) = k * 4096 + fr + j by omega] at h2
        exact h2
theorem has_pcs {L : List Pz} {so : Int} : ∀ (f k fr left : Nat), fr < 4096 → left < f → (∀ j, j < left → Has L so (k * 4096 + fr + j)) → smQ (pcs L so f k fr left) = left
  | 0, k, fr, left, _, h, _ => by omega
  | f + 1, k, fr, left, hfr, h, hj => by
    by_cases h0 : left = 0
    · subst h0; rw [pcs_end]; rfl
    obtain ⟨p, hp, hb⟩ := hj 0 (by omega)
    rw [show (k * 4096 + fr + 0) / 4096 = k by omega] at hp
    rw [pcs_more hp hb h0, smQ_cons]
    have := has_pcs (L := L) (so := so) f (k + 1) 0 (left - min left (4096 - fr)) (by omega) (by omega) (fun j hj2 => by
      have h3 := hj (min left (4096 - fr) + j) (by omega)
      rw [show k * 4096 + fr + (min left (4096 - fr) + j) = (k + 1) * 4096 + 0 + j by omega] at h3
      exact h3)
    rw [this]
    show min left (4096 - fr) + _ = _
    omega
theorem reach_iff {L : List Pz} {so : Int} {a n : Nat} : reachB L so a n = true ↔ ∀ j, j < n → Has L so (a + j) := by
  have e : a / 4096 * 4096 + a % 4096 = a := by omega
  constructor
  · intro h j hj
    have := pcs_has (L := L) (so := so) (n + 1) (a / 4096) (a % 4096) n (Nat.mod_lt _ (by omega)) (by simpa [reachB, pcsA] using h) j hj
    rw [e] at this
    exact this
  · intro h
    have := has_pcs (L := L) (so := so) (n + 1) (a / 4096) (a % 4096) n (Nat.mod_lt _ (by omega)) (by omega) (fun j hj => by rw [e]; exact h j hj)
    simp [reachB, pcsA, this]

theorem pcs_bytes {L : List Pz} (hz : Mz L) {so : Int} : ∀ (f k fr left : Nat), fr < 4096 → smQ (pcs L so f k fr left) = left → flQ (pcs L so f k fr left) = (List.range left).map (fun j => byteAt L (k * 4096 + fr + j))
  | 0, k, fr, left, _, h => by
    simp [pcs, smQ] at h
    subst h
    rfl
  | f + 1, k, fr, left, hfr, h => by
    by_cases h0 : left = 0
    · subst h0; rw [pcs_end]; rfl
    cases hp : fnd L k with
    | none => rw [pcs_none hp] at h; simp [smQ] at h; omega
    | some p =>
      by_cases hb : bits .and .i64 p.may so = so
      rotate_left
      · rw [pcs_not hp hb] at h; simp [smQ] at h; omega
      rw [pcs_more hp hb h0] at h ⊢
      obtain ⟨q, hq⟩ : ∃ q, q = min left (4096 - fr) := ⟨_, rfl⟩
      rw [← hq] at h ⊢
      rw [smQ_cons] at h
      have h' : q + smQ (pcs L so f (k + 1) 0 (left - q)) = left := h
      have hB := (hz.ok p (fnd_mem hp).1).len
      rw [flQ_cons, pcs_bytes hz f (k + 1) 0 (left - q) (by omega) (by omega)]
      have e1 : left = q + (left - q) := by omega
      have e2 : (List.range left).map (fun j => byteAt L (k * 4096 + fr + j)) = (List.range q).map (fun j => byteAt L (k * 4096 + fr + j)) ++ (List.range (left - q)).map (fun j => byteAt L (k * 4096 + fr + (q + j))) := by
        rw [e1, List.range_add, List.map_append, List.map_map]
        rw [← e1]
        rfl
      rw [e2]
      refine congr (congrArg HAppend.hAppend ?_) ?_
      · apply List.ext_getElem
        · simp [byQ]; omega
        · intro i h1 h2
          have hi : i < q := by simpa using h2
          simp only [byQ, List.getElem_take, List.getElem_drop, List.getElem_map, List.getElem_range]
          unfold byteAt
          rw [show (k * 4096 + fr + i) / 4096 = k by omega, hp, show (k * 4096 + fr + i) % 4096 = fr + i by omega]
          simp [show fr + i < p.B.length by omega]
      · by_cases hl : left - q = 0
        · rw [hl, List.range_zero, List.map_nil, List.map_nil]
        · apply List.map_congr_left
          intro j hj
          rw [show k * 4096 + fr + (q + j) = (k + 1) * 4096 + 0 + j by omega]
theorem rdB_is {L : List Pz} (hz : Mz L) {so : Int} {a n : Nat} (h : reachB L so a n = true) : rdB L so a n = (List.range n).map (fun j => byteAt L (a + j)) := by
  have := pcs_bytes hz (so := so) (n + 1) (a / 4096) (a % 4096) n (Nat.mod_lt _ (by omega)) (by simpa [reachB, pcsA] using h)
  rw [show a / 4096 * 4096 + a % 4096 = a by omega] at this
  exact this

/-- What is read in one is read in pieces. -/
theorem reach_cut {L : List Pz} {so : Int} {a n k : Nat} (h : reachB L so a (n + k) = true) : reachB L so a n = true ∧ reachB L so (a + n) k = true := by
  rw [reach_iff] at h
  exact ⟨reach_iff.2 fun j hj => h j (by omega), reach_iff.2 fun j hj => by rw [Nat.add_assoc]; exact h (n + j) (by omega)⟩
theorem reach_join {L : List Pz} {so : Int} {a n k : Nat} (h : reachB L so a n = true) (h' : reachB L so (a + n) k = true) : reachB L so a (n + k) = true := by
  rw [reach_iff] at h h' ⊢
  intro j hj
  by_cases c : j < n
  · exact h j c
  · have := h' (j - n) (by omega)
    rw [show a + n + (j - n) = a + j by omega] at this
    exact this
theorem rdB_cut {L : List Pz} (hz : Mz L) {so : Int} {a n k : Nat} (h : reachB L so a (n + k) = true) : rdB L so a (n + k) = rdB L so a n ++ rdB L so (a + n) k := by
  obtain ⟨h1, h2⟩ := reach_cut h
  rw [rdB_is hz h, rdB_is hz h1, rdB_is hz h2, List.range_add, List.map_append, List.map_map]
  congr 1
  apply List.map_congr_left
  intro j _
  simp only [Function.comp]
  rw [Nat.add_assoc]
theorem reach_zero (L : List Pz) (so : Int) (a : Nat) : reachB L so a 0 = true := reach_iff.2 fun j hj => by omega
/-- An address behind n bytes, as uint64 has it. -/
def adW (a n : Nat) : Nat := (a + n) % 18446744073709551616
theorem adW_lt (a n : Nat) : adW a n < 18446744073709551616 := Nat.mod_lt _ (by omega)
theorem adW_is {L : List Pz} (hz : Mz L) {so : Int} {a n : Nat} (ha : a < 18446744073709551616) (hn : n = 0 ∨ reachB L so a n = true) : adW a n = a + n := by
  unfold adW
  rcases hn with rfl | h
  · omega
  · by_cases h0 : n = 0
    · omega
    · have : a + n ≤ 140737488355328 := Classical.byContradiction fun c => by rw [reach_top hz (by omega) (by omega)] at h; cases h
      omega
theorem rdE_nat (L : List Pz) (a n : Nat) (hn : n ≤ 1048576) : rdE L a (n : Int) = if reachB L 4 a n = true then 0 else 61 := by
  unfold rdE
  rw [if_neg (by omega), if_neg (by omega), Int.toNat_natCast]
theorem rdX_nat (L : List Pz) (a n : Nat) (hn : n ≤ 1048576) (h : reachB L 4 a n = true) : rdX L a (n : Int) = rdB L 4 a n := by
  unfold rdX
  rw [if_neg (by omega), Int.toNat_natCast, if_pos h]
/-- Where all is read, the pieces are read, and are all. -/
theorem pieces_ok {L : List Pz} (hz : Mz L) {a n k : Nat} (ha : a < 18446744073709551616) (hn : n + k ≤ 1048576) (h : rdE L a ((n + k : Nat) : Int) = 0) :
    rdE L a (n : Int) = 0 ∧ rdE L (adW a n) (k : Int) = 0 ∧ rdX L a ((n + k : Nat) : Int) = rdX L a (n : Int) ++ rdX L (adW a n) (k : Int) := by
  rw [rdE_nat L a (n + k) hn] at h
  have hr : reachB L 4 a (n + k) = true := by
    by_cases c : reachB L 4 a (n + k) = true
    · exact c
    · rw [if_neg c] at h; cases h
  obtain ⟨h1, h2⟩ := reach_cut hr
  have e := adW_is hz ha (.inr h1)
  rw [rdE_nat L a n (by omega), if_pos h1, e, rdE_nat L _ k (by omega), if_pos h2, rdX_nat L a (n + k) hn hr, rdX_nat L a n (by omega) h1, rdX_nat L _ k (by omega) h2]
  exact ⟨rfl, rfl, rdB_cut hz hr⟩
/-- Where the pieces are read, all is read. -/
theorem pieces_no {L : List Pz} (hz : Mz L) {a n k : Nat} (ha : a < 18446744073709551616) (hn : n + k ≤ 1048576) (h0 : 0 < n) (h1 : rdE L a (n : Int) = 0) (h2 : rdE L (adW a n) (k : Int) = 0) : rdE L a ((n + k : Nat) : Int) = 0 := by
  rw [rdE_nat L a n (by omega)] at h1
  rw [rdE_nat L _ k (by omega)] at h2
  have r1 : reachB L 4 a n = true := by
    by_cases c : reachB L 4 a n = true
    · exact c
    · rw [if_neg c] at h1; cases h1
  rw [adW_is hz ha (.inr r1)] at h2
  have r2 : reachB L 4 (a + n) k = true := by
    by_cases c : reachB L 4 (a + n) k = true
    · exact c
    · rw [if_neg c] at h2; cases h2
  rw [rdE_nat L a (n + k) hn, if_pos (reach_join r1 r2)]

theorem fnd_keys : ∀ {L L' : List Pz}, L'.map (fun p => (p.k, p.may)) = L.map (fun p => (p.k, p.may)) → ∀ k, (fnd L' k).map (fun p => p.may) = (fnd L k).map (fun p => p.may)
  | [], [], _, k => rfl
  | [], _ :: _, h, k => by simp at h
  | _ :: _, [], h, k => by simp at h
  | p :: L, q :: L', h, k => by
    simp only [List.map_cons, List.cons.injEq, Prod.mk.injEq] at h
    unfold fnd
    rw [List.find?_cons, List.find?_cons, h.1.1]
    by_cases e : (p.k == k) = true
    · rw [e]; simp [h.1.2]
    · rw [Bool.not_eq_true] at e
      rw [e]
      exact fnd_keys h.2 k
theorem has_key {L L' : List Pz} (h : L'.map (fun p => (p.k, p.may)) = L.map (fun p => (p.k, p.may))) {so : Int} {x : Nat} (hx : Has L so x) : Has L' so x := by
  obtain ⟨p, hp, hb⟩ := hx
  have := fnd_keys h (x / 4096)
  rw [hp] at this
  cases hq : fnd L' (x / 4096) with
  | none => rw [hq] at this; cases this
  | some q =>
    rw [hq] at this
    simp at this
    exact ⟨q, hq, by rw [this]; exact hb⟩
theorem reach_key {L L' : List Pz} (h : L'.map (fun p => (p.k, p.may)) = L.map (fun p => (p.k, p.may))) {so : Int} {a n : Nat} (hr : reachB L so a n = true) : reachB L' so a n = true := by
  rw [reach_iff] at hr ⊢
  exact fun j hj => has_key h (hr j hj)

theorem btL_len (v : Int) (n : Nat) : (btL v n).length = n := by simp [btL]
theorem btL_halves (v : Int) : btL v 8 = btL (v % 4294967296) 4 ++ btL (v / 4294967296) 4 := by
  show [bt v 0, bt v 1, bt v 2, bt v 3, bt v 4, bt v 5, bt v 6, bt v 7] = [bt (v % 4294967296) 0, bt (v % 4294967296) 1, bt (v % 4294967296) 2, bt (v % 4294967296) 3, bt (v / 4294967296) 0, bt (v / 4294967296) 1, bt (v / 4294967296) 2, bt (v / 4294967296) 3]
  simp only [bt, List.cons.injEq, and_true]
  refine ⟨?_, ?_, ?_, ?_, ?_, ?_, ?_, ?_⟩ <;> omega

theorem givE_8 {L : List Pz} {a n : Nat} (hn : n ≤ 8) (h : givE L 2 61 a n = 0) : reachB L 2 a n = true := by
  unfold givE at h
  rw [if_neg (by omega)] at h
  by_cases c : reachB L 2 a n = true
  · exact c
  · rw [if_neg c] at h; cases h
theorem givL_8 {L : List Pz} (hz : Mz L) {a : Nat} {bl : List Int} (hn : bl.length ≤ 8) (h : reachB L 2 a bl.length = true) : givL L 2 61 a bl = putN L a bl := by
  unfold givL
  rw [if_neg (by omega), if_pos h, put_is hz h]
/-- A number that is stored in halves. -/
theorem halves_ok {L : List Pz} (hz : Mz L) {a : Nat} (ha : a < 18446744073709551616) {v : Int} (h : givE L 2 61 a 8 = 0) (hz' : Mz (givL L 2 61 a (btL (v % 4294967296) 4))) :
    givE L 2 61 a 4 = 0 ∧ givE (givL L 2 61 a (btL (v % 4294967296) 4)) 2 61 (adW a 4) 4 = 0 ∧ givL L 2 61 a (btL v 8) = givL (givL L 2 61 a (btL (v % 4294967296) 4)) 2 61 (adW a 4) (btL (v / 4294967296) 4) := by
  have hr := givE_8 (by omega) h
  obtain ⟨h1, h2⟩ := reach_cut (n := 4) (k := 4) hr
  have hk := givL_key L 2 61 a (btL (v % 4294967296) 4)
  have h3 := reach_key hk h2
  rw [adW_is hz ha (.inr h1)]
  refine ⟨by unfold givE; rw [if_neg (by omega), if_pos h1], by unfold givE; rw [if_neg (by omega), if_pos h3], ?_⟩
  rw [givL_8 hz' (a := a + 4) (by rw [btL_len]; omega) (by rw [btL_len]; exact h3), givL_8 hz (by rw [btL_len]; omega) (by rw [btL_len]; exact hr), givL_8 hz (by rw [btL_len]; omega) (by rw [btL_len]; exact h1), btL_halves v, putN_append, btL_len]
end Go.Proofs.Ytpfmnopokfiheaa
