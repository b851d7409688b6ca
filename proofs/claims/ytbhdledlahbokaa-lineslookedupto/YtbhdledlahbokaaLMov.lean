/- A sequence that is moved: its bytes; bytes that are written over. -/
import Derived.Test.YtbhdledlahbokaaBackWalk
namespace Go.Proofs.Ytbhdledlahbokaa
open Go.ChangeShapes Go.WideShapes Go.ChangeAt Go.RowKit Go.Conc
set_option linter.unusedVariables false
set_option linter.unusedSimpArgs false

def Sq.at (q : Sq) (T : Int) : Sq := ⟨T, q.sz, q.rows⟩
def movP (p : Pg) (K : Nat) (T : Int) : Pg := ⟨p.files, p.seqs.set K ((p.seqs.getD K Sq.zero).at T)⟩
theorem list_at (l : List Sq) (K : Nat) (hK : K < l.length) : l = l.take K ++ l.getD K Sq.zero :: l.drop (K + 1) := by
  rw [show l.getD K Sq.zero = l[K] by simp [hK], ← List.drop_eq_getElem_cons hK, List.take_append_drop]
theorem set_at (l : List Sq) (K : Nat) (hK : K < l.length) (x : Sq) : l.set K x = l.take K ++ x :: l.drop (K + 1) := by
  rw [List.set_eq_take_append_cons_drop, if_pos hK]
theorem seqR_parts (q : Sq) (T : Int) : ∃ R, seqR q = [0, 9, 2] ++ (pl q.st 8 ++ R) ∧ seqR (q.at T) = [0, 9, 2] ++ (pl T 8 ++ R) := ⟨_, rfl, rfl⟩
theorem unit_moved (p : Pg) (K : Nat) (hK : K < p.seqs.length) (T : Int) : ∃ P R, unitR p = P ++ (pl (p.seqs.getD K Sq.zero).st 8 ++ R) ∧ unitR (movP p K T) = P ++ (pl T 8 ++ R) ∧ (atsF ((headR p.files ((cmdR p.seqs).length : Int)).length : Int) p.seqs).getD K 0 = (P.length : Int) := by
  obtain ⟨files, seqs⟩ := p
  dsimp only at hK
  obtain ⟨R, h1, h2⟩ := seqR_parts (seqs.getD K Sq.zero) T
  have e1 : cmdR seqs = cmdR (seqs.take K) ++ ([0, 9, 2] ++ (pl (seqs.getD K Sq.zero).st 8 ++ R) ++ cmdR (seqs.drop (K + 1))) := by
    conv => lhs; rw [list_at seqs K hK]
    rw [← h1]
    simp [cmdR]
  have e2 : cmdR (seqs.set K ((seqs.getD K Sq.zero).at T)) = cmdR (seqs.take K) ++ ([0, 9, 2] ++ (pl T 8 ++ R) ++ cmdR (seqs.drop (K + 1))) := by
    rw [set_at seqs K hK, ← h2]
    simp [cmdR]
  have el : (cmdR (seqs.set K ((seqs.getD K Sq.zero).at T))).length = (cmdR seqs).length := by
    rw [e1, e2]; simp [pl_len]
  refine ⟨headR files ((cmdR seqs).length : Int) ++ (cmdR (seqs.take K) ++ [0, 9, 2]), R ++ cmdR (seqs.drop (K + 1)), ?_, ?_, ?_⟩
  · show headR files ((cmdR seqs).length : Int) ++ cmdR seqs = _
    generalize headR files ((cmdR seqs).length : Int) = H
    rw [e1]; simp
  · show headR files ((cmdR (seqs.set K ((seqs.getD K Sq.zero).at T))).length : Int) ++ cmdR (seqs.set K ((seqs.getD K Sq.zero).at T)) = _
    rw [el, e2]; simp
  · dsimp only
    rw [atsF_in _ _ _ hK]
    have : (atsF 0 seqs).getD K 0 = ((cmdR (seqs.take K)).length : Int) + 3 := by
      have h := (cmdR_at seqs K hK).2
      have h3 : (atsF 0 (seqs.take (K + 1))).getD K 0 = ((cmdR (seqs.take K)).length : Int) + 3 := by
        rw [h, List.getD_eq_getElem?_getD, List.getElem?_append_right (by rw [atsF_len]; simp; omega)]
        rw [atsF_len]
        simp [show min K seqs.length = K by omega]
      have h4 : atsF 0 seqs = atsF 0 (seqs.take (K + 1)) ++ atsF (0 + ((cmdR (seqs.take (K + 1))).length : Int)) (seqs.drop (K + 1)) := by
        rw [← atsF_append, List.take_append_drop]
      rw [h4, List.getD_eq_getElem?_getD, List.getElem?_append_left (by rw [atsF_len]; simp; omega), ← List.getD_eq_getElem?_getD]
      exact h3
    rw [this]
    simp only [List.length_append, List.length_cons, List.length_nil]
    omega
theorem movP_ok {p : Pg} {K : Nat} (hK : K < p.seqs.length) {T : Int} (hT : 0 ≤ T ∧ T ≤ 4611686018427387904) (he : wriE p = 0) : wriE (movP p K T) = 0 := by
  obtain ⟨hc, hl⟩ := wri_ok he
  have hc2 : checkB (movP p K T) = true := by
    unfold checkB seqsB at hc ⊢
    simp only [Bool.and_eq_true, decide_eq_true_eq] at hc ⊢
    refine ⟨hc.1, by simpa [movP] using hc.2.1, ?_⟩
    rw [List.all_eq_true]
    intro q hq
    rcases List.mem_or_eq_of_mem_set hq with h | h
    · exact List.all_eq_true.1 hc.2.2 q h
    · subst h
      have h0 := List.all_eq_true.1 hc.2.2 (p.seqs.getD K Sq.zero) (sq_in hK)
      simp only [movP, Sq.at, seqB, Bool.and_eq_true] at h0 ⊢
      exact ⟨by simp [inB]; omega, h0.2⟩
  obtain ⟨P, R, h1, h2, _⟩ := unit_moved p K hK T
  have hl2 : (unitR (movP p K T)).length = (unitR p).length := by rw [h1, h2]; simp [pl_len]
  unfold wriE bigB
  rw [hc2, hl2, if_pos rfl]
  simp; omega
theorem movP_few {p : Pg} (h : Few p) (K : Nat) (hK : K < p.seqs.length) (T : Int) : Few (movP p K T) := by
  refine ⟨h.f, by simpa [movP] using h.s, fun q hq => ?_⟩
  rcases List.mem_or_eq_of_mem_set hq with e | e
  · exact h.r q e
  · subst e
    show (p.seqs.getD K Sq.zero).rows.length ≤ 1048576
    exact h.r _ (sq_in hK)
/-- Of a list's elements the first ones turned. -/
def mixB (a b : List Int) (i : Nat) : List Int := a.take i ++ b.drop i
theorem mixB_len {a b : List Int} (h : a.length = b.length) (i : Nat) (hi : i ≤ a.length) : (mixB a b i).length = a.length := by
  simp [mixB]; omega
theorem mixB_next {a b : List Int} (h : a.length = b.length) {i : Nat} (hi : i < a.length) : (mixB a b i).set i (a.getD i 0) = mixB a b (i + 1) := by
  have ht : (a.take i).length = i := by simp; omega
  unfold mixB
  rw [List.drop_eq_getElem_cons (show i < b.length by omega), List.set_append_right _ _ (by omega), ht, Nat.sub_self, List.set_cons_zero, take_at a 0 i hi, List.append_assoc]
  rfl
theorem mix_step (P R a b : List Int) (h : a.length = b.length) {i : Nat} (hi : i < a.length) : (P ++ (mixB a b i ++ R)).set (P.length + i) (a.getD i 0) = P ++ (mixB a b (i + 1) ++ R) := by
  rw [List.set_append_right _ _ (by omega), Nat.add_sub_cancel_left, List.set_append_left _ _ (by rw [mixB_len h i (by omega)]; exact hi), mixB_next h hi]
theorem pl_at (T : Int) {i : Nat} (hi : i < 8) : (pl T 8).getD i 0 = T / 2 ^ (8 * i) % 256 := by
  unfold pl
  simp [hi]
/-- One of the bytes of the call's own is written. -/
theorem Own.setN {w : World} {base g c n : Nat} {xs : List Int} (h : Own w base (.slice (some ⟨g, 0, none⟩) n c) xs) (hn : xs.length = n) {k : Nat} (hk : k < n) (y : Int) : Own (w.setCell ⟨g, k, none⟩ (.int .u8 y)) base (.slice (some ⟨g, 0, none⟩) n c) (xs.set k y) := by
  subst hn
  refine ⟨by simp, ?_⟩
  rcases h.2 with ⟨h1, _⟩ | ⟨g', c', cur, hv, h2, h3, h4, h5, h6, h7⟩
  · cases h1
  · cases hv
    refine .inr ⟨g, c, cur.setIfInBounds k (.int .u8 y), by simp, h2, ?_, by simpa using h4, h5, by simpa using h6, ?_⟩
    · rw [setCell_eq_setRow w g k cur 5 (0, 0) _ h3]
      exact setRow_heap w g cur _ 5 _ h3
    · have hl : (xs.set k y).length * 1 = xs.length * 1 := by simp
      rw [hl, Array.toList_setIfInBounds, List.take_set, h7, List.map_set]
theorem Own.fr {w : World} {base g c n : Nat} {xs : List Int} (h : Own w base (.slice (some ⟨g, 0, none⟩) n c) xs) : base ≤ g ∧ g < w.heap.size ∧ (∀ k, w.frozen? ⟨g, k, none⟩ = false) ∧ ∃ cur, w.heap[g]? = some (.cells cur 5 (0, 0)) := by
  rcases h.2 with ⟨h1, _⟩ | ⟨g', c', cur, hv, h2, h3, _⟩
  · cases h1
  · cases hv
    exact ⟨h2, (Array.getElem?_eq_some_iff.1 h3).1, fun k => by simp [World.frozen?, h3], cur, h3⟩
theorem celS_set : ∀ (ps : List (Sq × Value)) (K : Nat) (T : Int), K < ps.length → (celS ps).set (K * 3) (.int .i64 T) = celS (ps.set K (((ps.getD K (Sq.zero, undef)).1.at T), (ps.getD K (Sq.zero, undef)).2))
  | [], K, T, h => by simp at h
  | r :: l, 0, T, _ => rfl
  | r :: l, K + 1, T, h => by
    have ih := celS_set l K T (by simpa using h)
    show (_ :: _ :: _ :: celS l).set ((K + 1) * 3) _ = _
    rw [show (K + 1) * 3 = K * 3 + 3 by omega]
    simp only [List.set_cons_succ, ih]
    rfl
/-- Where a sequence begins is written. -/
theorem TS.setN {w : World} {b g c n : Nat} {l : List Sq} (h : TS w b (.slice (some ⟨g, 0, none⟩) n c) l) (hn : l.length = n) {K : Nat} (hK : K < n) (T : Int) : TS (w.setCell ⟨g, K * 3, none⟩ (.int .i64 T)) b (.slice (some ⟨g, 0, none⟩) n c) (l.set K ((l.getD K Sq.zero).at T)) := by
  subst hn
  obtain ⟨ps, h1, h2, h3⟩ := h.row
  have hpl : ps.length = l.length := by rw [← h1]; simp
  have hg : (ps.getD K (Sq.zero, undef)).1 = l.getD K Sq.zero := by rw [← h1]; simp [show K < ps.length by omega]
  rcases h2.2 with ⟨e, _⟩ | ⟨g', c', cur, hv, k2, k3, k4, k5, k6, k7⟩
  · cases e
  · cases hv
    refine ⟨ps.set K (((ps.getD K (Sq.zero, undef)).1.at T), (ps.getD K (Sq.zero, undef)).2), ?_, ⟨?_, ?_⟩, fun p hp => ?_⟩
    · rw [List.map_set, h1, hg]
    · rw [← celS_set ps K T (by omega)]; simpa using h2.1
    · refine .inr ⟨g, c, cur.setIfInBounds (K * 3) (.int .i64 T), by simp, k2, ?_, by simpa using k4, k5, by simpa using k6, ?_⟩
      · rw [setCell_eq_setRow w g (K * 3) cur _ (0, 0) _ k3]
        exact setRow_heap w g cur _ _ _ k3
      · rw [← celS_set ps K T (by omega), Array.toList_setIfInBounds, List.length_set, List.take_set, k7]
    · have hfar : ∀ x ∈ ps, OwnRL (w.setCell ⟨g, K * 3, none⟩ (.int .i64 T)) b x.2 x.1.rows := fun x hx => (h3 x hx).far (set_grown w g (K * 3) _) (fun k hk e => by
        injection e with e
        subst e
        obtain ⟨_, _, c2, e2⟩ := (h3 x hx).ty _ hk
        have := k3.symm.trans e2
        injection this with this
        injection this with _ e3 _
        exact absurd e3 (by decide))
      rcases List.mem_or_eq_of_mem_set hp with e | e
      · exact hfar p e
      · subst e
        exact hfar (ps.getD K (Sq.zero, undef)) (by simp [show K < ps.length by omega])
theorem TS.fr {w : World} {b g c n : Nat} {l : List Sq} (h : TS w b (.slice (some ⟨g, 0, none⟩) n c) l) : b ≤ g ∧ g < w.heap.size ∧ ∀ k, w.frozen? ⟨g, k, none⟩ = false := by
  obtain ⟨h1, h2, cur, h3⟩ := h.ty g rfl
  exact ⟨h1, h2, fun k => by simp [World.frozen?, h3]⟩
theorem TS.zero {w : World} {b n c : Nat} {sa : Option Addr} {l : List Sq} (h : TS w b (.slice sa n c) l) (hl : 1 ≤ l.length) : ∃ g, sa = some ⟨g, 0, none⟩ := by
  obtain ⟨ps, h1, h2, h3⟩ := h.row
  rcases h2.2 with ⟨e, h0⟩ | ⟨g', c', cur, hv, _⟩
  · omega
  · cases hv
    exact ⟨g', rfl⟩
end Go.Proofs.Ytbhdledlahbokaa
