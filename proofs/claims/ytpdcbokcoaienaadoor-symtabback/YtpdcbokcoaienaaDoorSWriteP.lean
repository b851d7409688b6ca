/- What is written, plainly: entries, numbers of sections, that the names have room. -/
import Derived.Test.YtpdcbokcoaienaaDoorSCheck
import Derived.Test.YtpdcbokcoaienaaDoorSEnt
import Derived.Test.YtpdcbokcoaienaaDoorSOnceP
namespace Go.Proofs.YtpdcbokcoaienaaDoor
open Go.ChangeShapes Go.WideShapes Go.ChangeAt Go.RowKit Go.Maps
set_option linter.unusedVariables false
set_option linter.unusedSimpArgs false

/-- The first k entries. -/
def entsN (S : List Sym) (A : List Int) (m : ByteArray → Option Int) (k : Nat) : List Int :=
  (List.range k).flatMap fun i => entB (S.getD i Sym.none) (A.getD i 0) ((m (S.getD i Sym.none).sc).getD 0)
theorem entsN_succ (S : List Sym) (A : List Int) (m : ByteArray → Option Int) (k : Nat) : entsN S A m (k + 1) = entsN S A m k ++ entB (S.getD k Sym.none) (A.getD k 0) ((m (S.getD k Sym.none).sc).getD 0) := by
  unfold entsN
  rw [List.range_succ, List.flatMap_append]
  simp
theorem entsN_len (S : List Sym) (A : List Int) (m : ByteArray → Option Int) : ∀ k, (entsN S A m k).length = 24 * k
  | 0 => rfl
  | k + 1 => by rw [entsN_succ, List.length_append, entsN_len, entB_len]; omega
def zeros24 : List Int := List.replicate 24 0
/-- The table's bytes. -/
def symsB (S : List Sym) (A : List Int) (m : ByteArray → Option Int) : List Int := zeros24 ++ entsN S A m S.length

theorem strF_some : ∀ (r : List ByteArray) (T : TB) (A : List Int), (∀ s ∈ r, s.size ≤ 255) → T.b.length + 256 * r.length ≤ 1048576 → ∃ p, strF r T A = some p
  | [], T, A, _, _ => ⟨_, rfl⟩
  | s :: r, T, A, hs, hl => by
    have h1 : (T.put s).b.length ≤ T.b.length + 256 := by
      have := hs s (by simp)
      unfold TB.put
      split
      · omega
      · simp [bts_len]; omega
    simp only [List.length_cons] at hl
    unfold strF
    rw [if_neg (by omega)]
    exact strF_some r _ _ (fun t ht => hs t (by simp [ht])) (by omega)
theorem strM_some {l : List ByteArray} (hz : l.any zeroB = false) (hl : ∀ s ∈ l, s.size ≤ 255) (hn : l.length ≤ 2000) : ∃ b A, strM l = .ok (b, A) := by
  have hg : l.any longB = false := by
    rw [List.any_eq_false]
    intro s hs
    have := hl s hs
    simp [longB]; omega
  obtain ⟨p, hp⟩ := strF_some l T0 [] hl (by simp [T0]; omega)
  exact ⟨p.1.b, p.2, by unfold strM; rw [hz, hg, hp]; rfl⟩

/-- The numbers that sections have. -/
theorem numF_range : ∀ (r : List ByteArray) (k : Nat) (m f : ByteArray → Option Int), (∀ t p, m t = some p → 0 ≤ p ∧ p < 65536) → k + r.length ≤ 64 → numF r k m = some f → ∀ t p, f t = some p → 0 ≤ p ∧ p < 65536
  | [], k, m, f, hm, _, h => by cases h; exact hm
  | s :: r, k, m, f, hm, hk, h => by
    simp only [List.length_cons] at hk
    unfold numF at h
    split at h
    · cases h
    · refine numF_range r (k + 1) _ f (fun t p ht => ?_) (by omega) h
      unfold mput at ht
      split at ht
      · cases ht; omega
      · exact hm t p ht
theorem num0_range : ∀ t p, num0 t = some p → 0 ≤ p ∧ p < 65536 := by
  intro t p h
  unfold num0 mput at h
  split at h
  · cases h; omega
  · simp only at h
    split at h
    · cases h; omega
    · cases h

theorem ordL_mem {l : List Sym} {s : Sym} (h : s ∈ ordL l) : s ∈ l := by
  unfold ordL at h
  rcases List.mem_append.1 h with h | h
  · exact (List.mem_filter.1 h).1
  · exact (List.mem_filter.1 h).1
theorem ordL_len (l : List Sym) : (ordL l).length = l.length := by
  unfold ordL locs oths
  rw [List.length_append]
  induction l with
  | nil => rfl
  | cons s l ih => cases h : (s.b == 0) <;> simp [h] at ih ⊢ <;> omega

/-- What Check's taking tells. -/
theorem check_ok {l : List Sym} {ss : List ByteArray} (h : checkE l ss = 0) : l.length ≤ 2000 ∧ ss.length ≤ 64 ∧ (∀ s ∈ l, s.nm.size ≤ 255) ∧ (∀ s ∈ ss, s.size ≤ 255) ∧ ∃ m, numM ss = some m ∧ unlB l = true ∧ (∀ t p, m t = some p → 0 ≤ p ∧ p < 65536) ∧ ∀ s ∈ l, (m s.sc).isSome = true ∧ rightB s = true := by
  unfold checkE at h
  cases hm : muchB l ss
  · rw [hm] at h
    simp only [Bool.false_eq_true, if_false] at h
    cases hn : numM ss with
    | none => rw [hn] at h; simp at h
    | some m =>
      rw [hn] at h
      simp only at h
      cases hb : mayB l m
      · rw [hb] at h; simp at h
      · unfold muchB at hm
        simp only [Bool.or_eq_false_iff, decide_eq_false_iff_not] at hm
        obtain ⟨h1, h2, h3, h4⟩ := hm
        unfold mayB at hb
        simp only [Bool.and_eq_true, List.all_eq_true] at hb
        refine ⟨by omega, by omega, fun s hs => ?_, fun s hs => ?_, m, rfl, hb.2, numF_range ss 0 num0 m num0_range (by omega) hn, fun s hs => ?_⟩
        · have := List.any_eq_false.1 h3 s.nm (List.mem_map.2 ⟨s, hs, rfl⟩)
          simpa [longB] using this
        · have := List.any_eq_false.1 h4 s hs
          simpa [longB] using this
        · exact hb.1 s hs
  · rw [hm] at h; simp at h

theorem right_facts {s : Sym} (h : rightB s = true) : zeroB s.nm = false ∧ 0 ≤ s.b ∧ s.b ≤ 2 ∧ 0 ≤ s.t ∧ s.t ≤ 10 ∧ 0 ≤ s.v ∧ s.v ≤ 4611686018427387904 ∧ 0 ≤ s.z ∧ s.z ≤ 4611686018427387904 := by
  unfold rightB at h
  split at h
  · cases h
  · rename_i hc
    simp only [Bool.not_eq_true, Bool.or_eq_false_iff, Bool.not_eq_false'] at hc
    obtain ⟨h1, h2, h3, h4, h5⟩ := hc
    unfold bindB at h2
    unfold typeB at h3
    unfold extB at h4 h5
    simp only [Bool.or_eq_true, beq_iff_eq, Bool.and_eq_true, decide_eq_true_eq] at h2 h3 h4 h5
    refine ⟨h1, ?_, ?_, ?_, ?_, h4.1, h4.2, h5.1, h5.2⟩
    · omega
    · omega
    · omega
    · omega

theorem ent_ok {s : Sym} {a n : Int} (h : rightB s = true) (ha : 0 ≤ a ∧ a < 4294967296) (hn : 0 ≤ n ∧ n < 65536) : EntOk s a n := by
  obtain ⟨_, b0, b1, t0, t1, v0, v1, z0, z1⟩ := right_facts h
  exact ⟨ha.1, ha.2, hn.1, hn.2, v0, by omega, z0, by omega, b0, b1, t0, t1⟩

/-- A place that a table tells lies in it. -/
theorem G.place {l : List ByteArray} {k : Nat} {T : TB} {A : List Int} (g : G l k T A) (i : Nat) (hi : i < k) : 0 ≤ A.getD i 0 ∧ A.getD i 0 < T.b.length := by
  obtain ⟨n, hn, ⟨h1, h2, _, _⟩, _⟩ := g.spell _ _ (g.at' i hi)
  rw [hn]
  omega
end Go.Proofs.YtpdcbokcoaienaaDoor
