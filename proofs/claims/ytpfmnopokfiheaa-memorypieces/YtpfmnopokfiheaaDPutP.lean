/- Bytes that are put one by one are put as in pieces. -/
import Derived.Test.YtpfmnopokfiheaaDBytes
namespace Go.Proofs.Ytpfmnopokfiheaa
open Go.ChangeShapes Go.WideShapes Go.ChangeAt Go.RowKit Go.Maps
set_option linter.unusedVariables false
set_option linter.unusedSimpArgs false

/-- Bytes, put one by one. -/
def putN : List Pz → Nat → List Int → List Pz
  | L, _, [] => L
  | L, A, y :: ys => putN (wrL L (A / 4096) (A % 4096) [y]) (A + 1) ys

theorem putN_append (L : List Pz) (A : Nat) (xs ys : List Int) : putN L A (xs ++ ys) = putN (putN L A xs) (A + xs.length) ys := by
  induction xs generalizing L A with
  | nil => rfl
  | cons x xs ih =>
    show putN (wrL L (A / 4096) (A % 4096) [x]) (A + 1) (xs ++ ys) = _
    rw [ih]
    show putN (putN (wrL L (A / 4096) (A % 4096) [x]) (A + 1) xs) (A + 1 + xs.length) ys = putN (putN (wrL L (A / 4096) (A % 4096) [x]) (A + 1) xs) (A + (xs.length + 1)) ys
    rw [show A + 1 + xs.length = A + (xs.length + 1) by omega]

theorem wrL_wrL {L : List Pz} (hl : ∀ p ∈ L, p.B.length = 4096) (k o : Nat) (xs ys : List Int) (h : o + xs.length ≤ 4096) : wrL (wrL L k o xs) k (o + xs.length) ys = wrL L k o (xs ++ ys) := by
  unfold wrL
  rw [List.map_map]
  apply List.map_congr_left
  intro p hp
  have := hl p hp
  by_cases e : p.k = k
  · simp only [Function.comp, e, if_true]
    rw [splice_more _ _ _ _ (by omega)]
  · simp only [Function.comp, e, if_false]

theorem wrL_len {L : List Pz} (hl : ∀ p ∈ L, p.B.length = 4096) (k o : Nat) (xs : List Int) (h : o + xs.length ≤ 4096) : ∀ p ∈ wrL L k o xs, p.B.length = 4096 := by
  intro p hp
  unfold wrL at hp
  obtain ⟨q, hq, rfl⟩ := List.mem_map.1 hp
  have := hl q hq
  by_cases e : q.k = k
  · rw [if_pos e]
    show (splice q.B o xs).length = 4096
    rw [length_splice _ _ _ (by omega)]
    exact this
  · rw [if_neg e]; exact this

theorem wrL_nil {L : List Pz} (k o : Nat) : wrL L k o [] = L := by
  unfold wrL
  have : ∀ p : Pz, (if p.k = k then (⟨p.k, p.may, splice p.B o []⟩ : Pz) else p) = p := fun p => by
    split
    · simp [splice]
    · rfl
  simp [this]

theorem putN_page (ys : List Int) : ∀ (L : List Pz) (k o : Nat), (∀ p ∈ L, p.B.length = 4096) → o + ys.length ≤ 4096 → putN L (k * 4096 + o) ys = wrL L k o ys := by
  induction ys with
  | nil => intro L k o _ _; rw [wrL_nil]; rfl
  | cons y ys ih =>
    intro L k o hl h
    have h' : o + (ys.length + 1) ≤ 4096 := h
    show putN (wrL L ((k * 4096 + o) / 4096) ((k * 4096 + o) % 4096) [y]) (k * 4096 + o + 1) ys = _
    rw [show (k * 4096 + o) / 4096 = k by omega, show (k * 4096 + o) % 4096 = o by omega, show k * 4096 + o + 1 = k * 4096 + (o + 1) by omega]
    rw [ih _ k (o + 1) (wrL_len hl k o [y] (by simp; omega)) (by omega)]
    exact wrL_wrL hl k o [y] ys (by simp; omega)

theorem putN_len (ys : List Int) : ∀ (L : List Pz) (A : Nat), (∀ p ∈ L, p.B.length = 4096) → ∀ p ∈ putN L A ys, p.B.length = 4096 := by
  induction ys with
  | nil => intro L A hl; exact hl
  | cons y ys ih => intro L A hl; exact ih _ _ (wrL_len hl _ _ [y] (by simp; omega))

theorem wsts_put (bl : List Int) (L : List Pz) (so : Int) : ∀ (f k fr left t : Nat) (M : List Pz), (∀ p ∈ M, p.B.length = 4096) → fr < 4096 → t + left = bl.length → smQ (pcs L so f k fr left) = left → ((pcs L so f k fr left).foldl (wst bl) (M, t)).1 = putN M (k * 4096 + fr) (bl.drop t)
  | 0, k, fr, left, t, M, hM, hfr, ht, h => by
    simp [pcs, smQ] at h
    rw [show bl.drop t = [] from List.drop_eq_nil_of_le (by omega)]
    rfl
  | f + 1, k, fr, left, t, M, hM, hfr, ht, h => by
    by_cases h0 : left = 0
    · subst h0
      rw [pcs_end, show bl.drop t = [] from List.drop_eq_nil_of_le (by omega)]
      rfl
    cases hp : fnd L k with
    | none => rw [pcs_none hp] at h; simp [smQ] at h; omega
    | some p =>
      by_cases hb : bits .and .i64 p.may so = so
      rotate_left
      · rw [pcs_not hp hb] at h; simp [smQ] at h; omega
      rw [pcs_more hp hb h0] at h ⊢
      obtain ⟨q, hq⟩ : ∃ q, q = min left (4096 - fr) := ⟨_, rfl⟩
      rw [← hq] at h ⊢
      have h' : q + smQ (pcs L so f (k + 1) 0 (left - q)) = left := by simpa [smQ] using h
      have hk := (fnd_mem hp).2
      have hm : min (bl.length - t) q = q := by omega
      have e1 : wst bl (M, t) (p, fr, q) = (wrL M k fr ((bl.drop t).take q), t + q) := by
        show (wrL M p.k fr ((bl.drop t).take (min (bl.length - t) q)), t + min (bl.length - t) q) = _
        rw [hm, hk]
      have hlq : ((bl.drop t).take q).length = q := by simp; omega
      show ((pcs L so f (k + 1) 0 (left - q)).foldl (wst bl) (wst bl (M, t) (p, fr, q))).1 = _
      rw [e1, wsts_put bl L so f (k + 1) 0 (left - q) (t + q) _ (wrL_len hM _ _ _ (by rw [hlq]; omega)) (by omega) (by omega) (by omega)]
      have e2 : bl.drop t = (bl.drop t).take q ++ bl.drop (t + q) := by rw [← List.drop_drop, List.take_append_drop]
      rw [e2, putN_append, putN_page _ _ _ _ hM (by rw [hlq]; omega), hlq, ← e2]
      by_cases hz : left - q = 0
      · rw [show bl.drop (t + q) = [] from List.drop_eq_nil_of_le (by omega)]
        simp only [putN]
      · rw [show (k + 1) * 4096 + 0 = k * 4096 + fr + q by omega]

theorem put_is {L : List Pz} (hz : Mz L) {so : Int} {a : Nat} {bl : List Int} (h : reachB L so a bl.length = true) : (wsts bl L (pcsA L so a bl.length)).1 = putN L a bl := by
  have := wsts_put bl L so (bl.length + 1) (a / 4096) (a % 4096) bl.length 0 L (fun p hp => (hz.ok p hp).len) (Nat.mod_lt _ (by omega)) (by omega) (by simpa [reachB, pcsA] using h)
  rw [show a / 4096 * 4096 + a % 4096 = a by omega, List.drop_zero] at this
  exact this

theorem pcs_there {L : List Pz} {so : Int} : ∀ (f k fr left : Nat), fr < 4096 → smQ (pcs L so f k fr left) = left → ∀ j, j < left → (fnd L ((k * 4096 + fr + j) / 4096)).isSome = true
  | 0, k, fr, left, _, h, j, hj => by simp [pcs, smQ] at h; omega
  | f + 1, k, fr, left, hfr, h, j, hj => by
    cases hp : fnd L k with
    | none => rw [pcs_none hp] at h; simp [smQ] at h; omega
    | some p =>
      by_cases hb : bits .and .i64 p.may so = so
      rotate_left
      · rw [pcs_not hp hb] at h; simp [smQ] at h; omega
      rw [pcs_more hp hb (by omega)] at h
      have h' : min left (4096 - fr) + smQ (pcs L so f (k + 1) 0 (left - min left (4096 - fr))) = left := by simpa [smQ] using h
      by_cases hl : fr + j < 4096
      · rw [show (k * 4096 + fr + j) / 4096 = k by omega, hp]; rfl
      · have h2 := pcs_there (L := L) (so := so) f (k + 1) 0 (left - min left (4096 - fr)) (by omega) (by omega) (j - (4096 - fr)) (by omega)
        rw [show (k + 1) * 4096 + 0 + (j - (4096 - fr)) = k * 4096 + fr + j by omega] at h2
        exact h2
theorem reach_there {L : List Pz} {so : Int} {a n : Nat} (h : reachB L so a n = true) : ∀ j, j < n → (fnd L ((a + j) / 4096)).isSome = true := by
  intro j hj
  have := pcs_there (L := L) (so := so) (n + 1) (a / 4096) (a % 4096) n (Nat.mod_lt _ (by omega)) (by simpa [reachB, pcsA] using h) j hj
  rw [show a / 4096 * 4096 + a % 4096 + j = a + j by omega] at this
  exact this

theorem pzs_map (pb : Nat → Nat) (g : Pz → Pz) (hg : ∀ p, (g p).cells pb = p.cells pb) (L : List Pz) : pzs pb (L.map g) = pzs pb L := by
  induction L with
  | nil => rfl
  | cons p L ih =>
    show (g p).cells pb ++ pzs pb (L.map g) = p.cells pb ++ pzs pb L
    rw [hg, ih]

theorem RA.wr {w : World} {rb : Nat} {lv : Value} {pb : Nat → Nat} {L : List Pz} (h : RA w rb lv pb L) {p : Pz} (hp : p ∈ L) {o : Nat} (ho : o < 4096) {y : Int} (hy : 0 ≤ y ∧ y < 256) :
    RA (w.setCell ⟨pb p.k, o, none⟩ (.int .u8 y)) rb lv pb (wrL L p.k o [y]) := by
  have hlen : (wrL L p.k o [y]).length = L.length := by simp [wrL]
  have hkey := wrL_key L p.k o [y]
  have hk : (wrL L p.k o [y]).map (fun p => p.k) = L.map (fun p => p.k) := by
    have := congrArg (List.map Prod.fst) hkey
    rw [List.map_map, List.map_map] at this
    exact this
  have hb : ∀ c, c ≠ pb p.k → (w.setCell ⟨pb p.k, o, none⟩ (.int .u8 y)).heap[c]? = w.heap[c]? := fun c hne => Below.heap_setCell _ _ _ _ (by simpa using hne)
  have hset := setCell_eq_setRow w (pb p.k) o _ _ _ (.int .u8 y) (h.bytes p hp)
  have hpz : pzs pb (wrL L p.k o [y]) = pzs pb L := by
    unfold wrL
    refine pzs_map pb _ (fun q => ?_) L
    by_cases e : q.k = p.k
    · rw [if_pos e]; simp only [Pz.cells]
    · rw [if_neg e]
  refine ⟨?_, ?_, fun q hq => ?_, fun q hq q' hq' e => ?_, wrL_ok h.mz (by simp; omega) (fun z hz => by simp at hz; subst hz; exact hy)⟩
  · rw [hb rb (h.brb hp).symm]; exact h.cells
  · unfold OwnP
    rw [hlen, hpz]
    refine ownsRow_setCell_other h.row (fun e => ?_) _
    exact h.bne hp e rfl
  · unfold wrL at hq
    obtain ⟨q0, hq0, rfl⟩ := List.mem_map.1 hq
    by_cases e : q0.k = p.k
    · have : q0 = p := by
        have h1 := mem_fnd h.mz.up hq0
        have h3 := mem_fnd h.mz.up hp
        rw [e] at h1
        rw [h1] at h3
        exact Option.some.inj h3
      subst this
      rw [if_pos rfl]
      show (w.setCell ⟨pb q0.k, o, none⟩ (.int .u8 y)).heap[pb q0.k]? = some (.cells ((splice q0.B o [y]).map (Value.int .u8)).toArray 5)
      rw [hset, setRow_heap w (pb q0.k) _ _ _ _ (h.bytes q0 hp)]
      have hl := (h.mz.ok q0 hp).len
      congr 2
      apply Array.toList_inj.1
      rw [Array.toList_setIfInBounds]
      show (q0.B.map (Value.int .u8)).set o (.int .u8 y) = (splice q0.B o [y]).map (Value.int .u8)
      rw [← List.map_set]
      congr 1
      unfold splice
      rw [List.set_eq_take_append_cons_drop, if_pos (by omega)]
      rfl
    · rw [if_neg e, hb _ (fun e2 => e (h.inj q0 hq0 p hp e2))]
      exact h.bytes q0 hq0
  · obtain ⟨a, ha, ea⟩ := k_mem hk.symm hq
    obtain ⟨b', hb', eb⟩ := k_mem hk.symm hq'
    rw [← ea, ← eb] at e ⊢
    exact h.inj a ha b' hb' e
end Go.Proofs.Ytpfmnopokfiheaa
