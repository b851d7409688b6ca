/- What was written is read again, plainly. -/
import Derived.Test.YtpdcbokcoaienaaDoorSRd4
import Derived.Test.YtpdcbokcoaienaaDoorSWriteP
namespace Go.Proofs.YtpdcbokcoaienaaDoor
open Go.ChangeShapes Go.WideShapes Go.ChangeAt Go.RowKit
set_option linter.unusedVariables false
set_option linter.unusedSimpArgs false

theorem bacc_mod {f : Nat → Int} {a : Nat} {n : Int} : ∀ k, (∀ i, i < k → f (a + i) = n / 2 ^ (8 * i) % 256) → bacc f a k = n % 2 ^ (8 * k)
  | 0, _ => by simp [bacc, Int.emod_one]
  | k + 1, h => by
    have ih := bacc_mod k fun i hi => h i (by omega)
    have hk := h k (by omega)
    show bacc f a k + f (a + k) * 2 ^ (8 * k) = _
    rw [ih, hk]
    have e : (2 : Int) ^ (8 * (k + 1)) = 2 ^ (8 * k) * 256 := by
      rw [show 8 * (k + 1) = 8 * k + 8 from by omega, Int.pow_add]; rfl
    have hp := pow_pos_i (8 * k)
    rw [e]
    generalize (2 : Int) ^ (8 * k) = P at *
    have h1 := Int.emod_add_mul_ediv n P
    have h2 := Int.emod_add_mul_ediv (n / P) 256
    have h3 : n = P * 256 * (n / P / 256) + (n % P + n / P % 256 * P) := by
      have : P * (n / P) = P * (n / P % 256 + 256 * (n / P / 256)) := by rw [h2]
      rw [Int.mul_add, ← Int.mul_assoc, Int.mul_comm P (n / P % 256)] at this
      omega
    have h4 : 0 ≤ n % P := Int.emod_nonneg _ (by omega)
    have h5 : n % P < P := Int.emod_lt_of_pos _ hp
    have h6 : 0 ≤ n / P % 256 := Int.emod_nonneg _ (by omega)
    have h7 : n / P % 256 ≤ 255 := by have := Int.emod_lt_of_pos (n / P) (show (0 : Int) < 256 by omega); omega
    have h8 : n / P % 256 * P ≤ 255 * P := Int.mul_le_mul_of_nonneg_right h7 (by omega)
    have h9 : 0 ≤ n / P % 256 * P := Int.mul_nonneg h6 (by omega)
    have h10 : (n % P + n / P % 256 * P) % (P * 256) = n % P + n / P % 256 * P := Int.emod_eq_of_lt (by omega) (by omega)
    have h11 : n % (P * 256) = (n % P + n / P % 256 * P) % (P * 256) := by
      conv => lhs; rw [h3]
      rw [Int.mul_add_emod_self_left]
    rw [h11, h10]

theorem gd_le (k : Nat) (n : Int) (i : Nat) (h : i < k) : gd (le k n) i = n / 2 ^ (8 * i) % 256 := by
  simp [gd, le, h]

/-- A part of a row. -/
theorem gd_mid (x y z : List Int) (i : Nat) (h : i < y.length) : gd (x ++ (y ++ z)) (x.length + i) = gd y i := by
  rw [gd_right, gd_left _ _ _ h]

theorem fld (x z : List Int) (k : Nat) (n : Int) (f : Nat → Int) (a : Nat) (hn : 0 ≤ n) (hk : n < 2 ^ (8 * k)) (hw : n < 9223372036854775808) (h : ∀ i, i < (x ++ (le k n ++ z)).length → f (a + i) = gd (x ++ (le k n ++ z)) i) : wrap64 (bacc f (a + x.length) k) = n := by
  rw [bacc_mod k (n := n)]
  · rw [Int.emod_eq_of_lt hn hk]; unfold wrap64; omega
  · intro i hi
    rw [Nat.add_assoc, h _ (by simp [le_len]; omega), gd_mid _ _ _ _ (by rw [le_len]; exact hi), gd_le k n i hi]

theorem ent_fields {s : Sym} {p n : Int} (e : EntOk s p n) {I : In} {a : Nat} (h : ∀ i, i < 24 → I.f1 (a + i) = gd (entB s p n) i) :
    fN I a 0 = p ∧ fN I a 1 = 16 * s.b + s.t ∧ fN I a 3 = n ∧ fN I a 4 = s.v ∧ fN I a 5 = s.z := by
  have a0 := e.a0; have a1 := e.a1; have n0 := e.n0; have n1 := e.n1; have v0 := e.v0; have v1 := e.v1; have z0 := e.z0; have z1 := e.z1; have b0 := e.b0; have b1 := e.b1; have t0 := e.t0; have t1 := e.t1
  refine ⟨?_, ?_, ?_, ?_, ?_⟩
  · exact fld [] (le 1 (16 * s.b + s.t) ++ (le 1 0 ++ (le 2 n ++ (le 8 s.v ++ le 8 s.z)))) 4 p I.f1 a a0 (by omega) (by omega) (fun i hi => h i (by simpa [le_len] using hi))
  · exact fld (le 4 p) (le 1 0 ++ (le 2 n ++ (le 8 s.v ++ le 8 s.z))) 1 (16 * s.b + s.t) I.f1 a (by omega) (by omega) (by omega) (fun i hi => h i (by simpa [le_len] using hi))
  · have := fld (le 4 p ++ (le 1 (16 * s.b + s.t) ++ le 1 0)) (le 8 s.v ++ le 8 s.z) 2 n I.f1 a n0 (by omega) (by omega) (fun i hi => by
      rw [h i (by simpa [le_len] using hi)]; simp [entB, List.append_assoc])
    exact this
  · have := fld (le 4 p ++ (le 1 (16 * s.b + s.t) ++ (le 1 0 ++ le 2 n))) (le 8 s.z) 8 s.v I.f1 a v0 (by omega) (by omega) (fun i hi => by
      rw [h i (by simpa [le_len] using hi)]; simp [entB, List.append_assoc])
    exact this
  · have := fld (le 4 p ++ (le 1 (16 * s.b + s.t) ++ (le 1 0 ++ (le 2 n ++ le 8 s.v)))) [] 8 s.z I.f1 a z0 (by omega) (by omega) (fun i hi => by
      rw [h i (by simpa [le_len] using hi)]; simp [entB, List.append_assoc])
    exact this

/-- Which section a number tells. -/
theorem numF_sec (ss : List ByteArray) : ∀ (r : List ByteArray) (k : Nat) (m f : ByteArray → Option Int), ss.drop k = r → k ≤ ss.length → ss.length ≤ 64 →
    (∀ t p, m t = some p → (t = ByteArray.empty ∧ p = 0) ∨ (t = ⟨#[42]⟩ ∧ p = 65521) ∨ ∃ i, i < k ∧ p = (i : Int) + 1 ∧ ss.getD i ByteArray.empty = t) → numF r k m = some f →
    ∀ t p, f t = some p → (t = ByteArray.empty ∧ p = 0) ∨ (t = ⟨#[42]⟩ ∧ p = 65521) ∨ ∃ i, i < ss.length ∧ p = (i : Int) + 1 ∧ ss.getD i ByteArray.empty = t
  | [], k, m, f, hd, hk, h64, hm, h => by
    cases h
    intro t p ht
    rcases hm t p ht with h1 | h1 | ⟨i, hi, h1⟩
    · exact .inl h1
    · exact .inr (.inl h1)
    · exact .inr (.inr ⟨i, by omega, h1⟩)
  | s :: r, k, m, f, hd, hk, h64, hm, h => by
    have hlt : k < ss.length := by
      by_cases e : k < ss.length
      · exact e
      · rw [List.drop_of_length_le (by omega)] at hd; cases hd
    have hs : ss[k] = s := by
      rw [List.drop_eq_getElem_cons hlt] at hd
      exact (List.cons.inj hd).1
    have hr : ss.drop (k + 1) = r := by
      rw [List.drop_eq_getElem_cons hlt] at hd
      exact (List.cons.inj hd).2
    unfold numF at h
    split at h
    · cases h
    · refine numF_sec ss r (k + 1) _ f hr (by omega) h64 (fun t p ht => ?_) h
      unfold mput at ht
      split at ht
      · rename_i e
        cases ht
        right; right
        exact ⟨k, by omega, rfl, by simp [hlt, hs, e]⟩
      · rcases hm t p ht with h1 | h1 | ⟨i, hi, h1⟩
        · exact .inl h1
        · exact .inr (.inl h1)
        · exact .inr (.inr ⟨i, by omega, h1⟩)

theorem sec_back {ss : List ByteArray} (h64 : ss.length ≤ 64) {m : ByteArray → Option Int} (hm : numM ss = some m) {t : ByteArray} {p : Int} (ht : m t = some p) : secM ss p = some t := by
  have := numF_sec ss ss 0 num0 m (by simp) (by omega) h64 (fun t p h => by
    unfold num0 mput at h
    split at h
    · rename_i e; cases h; exact .inr (.inl ⟨e, rfl⟩)
    · split at h
      · rename_i e; cases h; exact .inl ⟨e, rfl⟩
      · cases h) hm t p ht
  unfold secM
  rcases this with ⟨rfl, rfl⟩ | ⟨rfl, rfl⟩ | ⟨i, hi, rfl, rfl⟩
  · rfl
  · rfl
  · rw [if_neg (by omega), if_neg (by omega), if_pos (by omega)]
    simp

/-- One entry is read as it was. -/
theorem sym_back {s : Sym} {p n : Int} (e : EntOk s p n) {I : In} {a : Nat} (h : ∀ i, i < 24 → I.f1 (a + i) = gd (entB s p n) i) (hin : a + 24 ≤ I.n1)
    (hat : atP I.n2 I.f2 p = (s.nm, 0)) (hsec : secM I.ss n = some s.sc) : symF I a = some s := by
  obtain ⟨f0, f1, f3, f4, f5⟩ := ent_fields e h
  unfold symF
  rw [if_pos hin]
  unfold symM
  rw [f0, f1, f3, f4, f5, hat, hsec]
  have b0 := e.b0; have b1 := e.b1; have t0 := e.t0; have t1 := e.t1
  have d1 : IntKind.i64.wrap ((16 * s.b + s.t).tdiv 16) = s.b := by
    rw [Int.tdiv_eq_ediv_of_nonneg (by omega), IntKind.wrap_i64]; omega
  have d2 : (16 * s.b + s.t).tmod 16 = s.t := by
    rw [Int.tmod_eq_emod_of_nonneg (by omega)]; omega
  rw [d1, d2]
  rfl

theorem gd_ent (S : List Sym) (A : List Int) (m : ByteArray → Option Int) : ∀ k j i, j < k → i < 24 → gd (entsN S A m k) (24 * j + i) = gd (entB (S.getD j Sym.none) (A.getD j 0) ((m (S.getD j Sym.none).sc).getD 0)) i
  | 0, j, i, h, _ => by omega
  | k + 1, j, i, h, hi => by
    rw [entsN_succ]
    by_cases e : j < k
    · rw [gd_left _ _ _ (by rw [entsN_len]; omega)]
      exact gd_ent S A m k j i e hi
    · obtain rfl : j = k := by omega
      have := gd_right (entsN S A m j) (entB (S.getD j Sym.none) (A.getD j 0) ((m (S.getD j Sym.none).sc).getD 0)) i
      rw [entsN_len] at this
      exact this
theorem gd_syms (S : List Sym) (A : List Int) (m : ByteArray → Option Int) (j i : Nat) (h : j < S.length) (hi : i < 24) : gd (symsB S A m) (24 * (j + 1) + i) = gd (entB (S.getD j Sym.none) (A.getD j 0) ((m (S.getD j Sym.none).sc).getD 0)) i := by
  unfold symsB
  rw [show 24 * (j + 1) + i = zeros24.length + (24 * j + i) by simp [zeros24]; omega, gd_right]
  exact gd_ent S A m S.length j i h hi

theorem le_byte (k : Nat) (n : Int) : ∀ x ∈ le k n, 0 ≤ x ∧ x < 256 := by
  intro x hx
  simp only [le, List.mem_map] at hx
  obtain ⟨i, _, rfl⟩ := hx
  exact ⟨Int.emod_nonneg _ (by omega), Int.emod_lt_of_pos _ (by omega)⟩
theorem entB_byte (s : Sym) (a n : Int) : ∀ x ∈ entB s a n, 0 ≤ x ∧ x < 256 := by
  intro x hx
  unfold entB at hx
  simp only [List.mem_append] at hx
  rcases hx with h | h | h | h | h | h <;> exact le_byte _ _ x h
theorem symsB_byte (S : List Sym) (A : List Int) (m : ByteArray → Option Int) : ∀ x ∈ symsB S A m, 0 ≤ x ∧ x < 256 := by
  intro x hx
  unfold symsB at hx
  rcases List.mem_append.1 hx with h | h
  · rw [zeros24, List.mem_replicate] at h; omega
  · unfold entsN at h
    rw [List.mem_flatMap] at h
    obtain ⟨i, _, h⟩ := h
    exact entB_byte _ _ _ x h
theorem symsB_len (S : List Sym) (A : List Int) (m : ByteArray → Option Int) : (symsB S A m).length = 24 * (S.length + 1) := by
  unfold symsB
  rw [List.length_append, entsN_len]
  simp [zeros24]; omega
theorem gd_byte {l : List Int} (h : ∀ x ∈ l, 0 ≤ x ∧ x < 256) (i : Nat) : 0 ≤ gd l i ∧ gd l i < 256 := getD_byte h i

/-- All that was written is read as it was. -/
theorem prs_back {I : In} {S : List Sym} (hn : I.n1 = 24 * (S.length + 1)) (h : ∀ j, j < S.length → symF I (24 * (j + 1)) = some (S.getD j Sym.none)) :
    ∀ n j, j ≤ S.length → I.n1 < 24 * (j + 1) + n → prs I n (24 * (j + 1)) = some (S.drop j)
  | 0, j, hj, hf => by omega
  | n + 1, j, hj, hf => by
    unfold prs
    by_cases e : j < S.length
    · rw [if_pos (by omega), h j e]
      have := prs_back hn h n (j + 1) (by omega) (by omega)
      show (prs I n (24 * (j + 1) + 24)).map _ = _
      rw [show 24 * (j + 1) + 24 = 24 * (j + 1 + 1) by omega, this, List.drop_eq_getElem_cons e]
      simp [e]
    · rw [if_neg (by omega), List.drop_of_length_le (by omega)]

theorem ordL_ordL (l : List Sym) : ordL (ordL l) = ordL l ∧ locs (ordL l) = locs l := by
  have h1 : locs (ordL l) = locs l := by
    unfold ordL locs oths
    rw [List.filter_append, List.filter_filter, List.filter_filter]
    simp
  have h2 : oths (ordL l) = oths l := by
    unfold ordL locs oths
    rw [List.filter_append, List.filter_filter, List.filter_filter]
    simp
  exact ⟨by rw [ordL, h1, h2]; rfl, h1⟩

/-- No two have one name: plainly. -/
def Clash (s t : Sym) : Prop := s.nm = t.nm ∧ (s.b == 0) = (t.b == 0) ∧ empB s.nm = false
theorem unlF_iff : ∀ (l : List Sym) (f : ByteArray → Bool → Bool), unlF l f = true ↔ (∀ s ∈ l, f s.nm (s.b == 0) = true → empB s.nm = true) ∧ l.Pairwise fun s t => ¬ Clash s t
  | [], f => by simp [unlF]
  | s :: r, f => by
    unfold unlF
    rw [List.pairwise_cons]
    cases hc : (f s.nm (s.b == 0) && !empB s.nm)
    · simp only [Bool.false_eq_true, if_false]
      rw [unlF_iff r]
      simp only [Bool.and_eq_false_iff, Bool.not_eq_false'] at hc
      constructor
      · rintro ⟨h1, h2⟩
        refine ⟨fun t ht hf => ?_, fun t ht hcl => ?_, h2⟩
        · rcases List.mem_cons.1 ht with rfl | ht
          · rcases hc with h | h
            · rw [h] at hf; cases hf
            · exact h
          · exact h1 t ht (by unfold fput; rw [hf]; simp)
        · have := h1 t ht (by unfold fput; simp [hcl.1, hcl.2.1])
          rw [← hcl.1, hcl.2.2] at this
          cases this
      · rintro ⟨h1, h2, h3⟩
        refine ⟨fun t ht hf => ?_, h3⟩
        unfold fput at hf
        simp only [Bool.or_eq_true, decide_eq_true_eq] at hf
        rcases hf with ⟨e1, e2⟩ | hf
        · cases he : empB t.nm
          · exact absurd ⟨e1.symm, e2.symm, by rw [← e1]; exact he⟩ (h2 t ht)
          · rfl
        · exact h1 t (List.mem_cons_of_mem _ ht) hf
    · simp only [if_true, Bool.false_eq_true, false_iff]
      simp only [Bool.and_eq_true, Bool.not_eq_true'] at hc
      rintro ⟨h1, _⟩
      have := h1 s (by simp) hc.1
      rw [hc.2] at this
      cases this

theorem unlB_ord {l : List Sym} (h : unlB l = true) : unlB (ordL l) = true := by
  unfold unlB at *
  rw [unlF_iff] at *
  obtain ⟨h1, h2⟩ := h
  refine ⟨fun s hs hf => (by cases hf), ?_⟩
  unfold ordL
  rw [List.pairwise_append]
  refine ⟨h2.filter _, h2.filter _, fun s hs t ht hc => ?_⟩
  have a := (List.mem_filter.1 hs).2
  have b := (List.mem_filter.1 ht).2
  have e := hc.2.1
  rw [a] at e
  rw [← e] at b
  cases b

theorem ordL_mem' {l : List Sym} {s : Sym} (h : s ∈ l) : s ∈ ordL l := by
  unfold ordL locs oths
  rw [List.mem_append, List.mem_filter, List.mem_filter]
  cases hb : (s.b == 0)
  · exact .inr ⟨h, by simp⟩
  · exact .inl ⟨h, rfl⟩

theorem check_ord {l : List Sym} {ss : List ByteArray} (h : checkE l ss = 0) : checkE (ordL l) ss = 0 := by
  obtain ⟨n1, n2, n3, n4, m, hm, hu, hrg, hall⟩ := check_ok h
  unfold checkE
  have hmu : muchB (ordL l) ss = false := by
    unfold muchB
    simp only [Bool.or_eq_false_iff, decide_eq_false_iff_not, List.any_eq_false]
    refine ⟨by rw [ordL_len]; omega, by omega, fun s hs => ?_, fun s hs => ?_⟩
    · obtain ⟨y, hy, rfl⟩ := List.mem_map.1 hs
      have := n3 y (ordL_mem hy)
      simp [longB]; omega
    · have := n4 s hs
      simp [longB]; omega
  rw [hmu, hm]
  have hmay : mayB (ordL l) m = true := by
    unfold mayB
    simp only [Bool.and_eq_true, List.all_eq_true]
    exact ⟨fun s hs => hall s (ordL_mem hs), unlB_ord hu⟩
  simp [hmay]

/-- Of what Write wrote, all is read as it was. -/
theorem back_all {l : List Sym} {ss : List ByteArray} (hc : checkE l ss = 0) {m : ByteArray → Option Int} (hm : numM ss = some m) {b A : List Int} (hst : strM ((ordL l).map Sym.nm) = .ok (b, A)) (a1 a2 a3 : Option Addr) (k1 k2 k3 : Nat) :
    prsM ⟨a1, (symsB (ordL l) A m).length, k1, gd (symsB (ordL l) A m), a2, b.length, k2, gd b, a3, k3, ss⟩ = some (ordL l) := by
  obtain ⟨n1, n2, n3, n4, m', hm', hu, hrg, hall⟩ := check_ok hc
  rw [hm] at hm'
  cases hm'
  obtain ⟨_, hsz, T, rfl, g, hT⟩ := strM_ok hst
  rw [List.length_map] at g
  have key := prs_back (I := ⟨a1, (symsB (ordL l) A m).length, k1, gd (symsB (ordL l) A m), a2, T.b.length, k2, gd T.b, a3, k3, ss⟩) (S := ordL l) (symsB_len _ _ _) (fun j hj => ?_) ((symsB (ordL l) A m).length + 1) 0 (by omega) (by show (symsB (ordL l) A m).length < _; omega)
  · exact key
  · have hg : (ordL l).getD j Sym.none = (ordL l)[j] := by simp [hj]
    have hin : (ordL l)[j] ∈ l := ordL_mem (List.getElem_mem hj)
    have pl := g.place j hj
    have at' := g.at' j hj
    have hnm : ((ordL l).map Sym.nm).getD j ByteArray.empty = (ordL l)[j].nm := by simp [hj]
    rw [hnm] at at'
    obtain ⟨k, hk, htx, htt⟩ := g.spell _ _ at'
    have hsm := (hall _ hin).1
    obtain ⟨q, hq⟩ := Option.isSome_iff_exists.1 hsm
    have hrq := hrg _ _ hq
    refine sym_back (s := (ordL l).getD j Sym.none) (p := A.getD j 0) (n := (m ((ordL l).getD j Sym.none).sc).getD 0) (ent_ok (by rw [hg]; exact (hall _ hin).2) (by omega) (by rw [hg, hq]; exact hrq)) (fun i hi => gd_syms _ _ _ j i hj hi) (by show 24 * (j + 1) + 24 ≤ (symsB (ordL l) A m).length; rw [symsB_len]; omega) ?_ ?_
    · show atP T.b.length (gd T.b) (A.getD j 0) = _
      rw [atP_pin T.b.length (gd T.b) (A.getD j 0) (gd_byte g.byte) (by omega) k (k + (ordL l)[j].nm.size) hk htx (by have := n3 _ hin; omega), htt, hg]
    · rw [hg, hq]
      exact sec_back n2 hm hq
end Go.Proofs.YtpdcbokcoaienaaDoor
