/- What rows say; one object more. -/
import Derived.Test.YtgoaegembijdcaaRAll
import Derived.Test.YtgoaegembijdcaaRSpec
import Derived.Test.YtgoaegembijdcaaRFind
namespace Go.Proofs.Ytgoaegembijdcaa
open Go.ChangeShapes Go.WideShapes Go.ChangeAt Go.RowKit Go.Maps
set_option linter.unusedVariables false
set_option linter.unusedSimpArgs false

theorem allF_ok (l : List Fl) : (AllF l).e = 0 ↔ (checkL l = 0 ∧ faultsL l = []) := by
  unfold AllF
  by_cases h : checkL l = 0
  · rw [h]
    simp only [beq_self_eq_true, if_true, true_and]
    cases hf : faultsL l with
    | nil => simp [Ft.zero]
    | cons f r =>
      have hm : f ∈ faultsL l := by rw [hf]; simp
      have : f.e = 180 ∨ f.e = 181 ∨ f.e = 182 := by
        unfold faultsL at hm
        simp only [List.mem_append] at hm
        have k : ∀ {α : Type} (e : Int) (p : α → Bool) (L : List (ByteArray × α)), f ∈ ftOf e p L → f.e = e := by
          intro α e p L hh
          unfold ftOf at hh
          obtain ⟨r, _, rfl⟩ := List.mem_map.1 hh
          rfl
        rcases hm with ((hm | hm) | hm) | hm
        · exact .inl (k _ _ _ hm)
        · exact .inr (.inl (k _ _ _ hm))
        · exact .inr (.inr (k _ _ _ hm))
        · exact .inr (.inr (k _ _ _ hm))
      simp
      omega
  · rw [if_neg (by simp [h])]
    simp [h]
theorem allT_bad (l : List Fl) (h : (AllF l).e ≠ 0) : AllT l = [] := by
  unfold AllT
  by_cases hc : checkL l = 0
  · have : faultsL l ≠ [] := fun e => h ((allF_ok l).2 ⟨hc, e⟩)
    rw [hc]; simp [this]
  · rw [if_neg (by simp [hc])]
theorem allT_ok (l : List Fl) (h : (AllF l).e = 0) : AllT l = entsL l := by
  obtain ⟨h1, h2⟩ := (allF_ok l).1 h
  unfold AllT
  rw [h1, h2]; simp

theorem mU_some {l : List Oc} {n : ByteArray} {u : Us} : mU l n = some u ↔ (∃ x ∈ l, cnt n x = true) ∧ u = useOf l n := by
  unfold mU
  cases h : l.any (cnt n)
  · rw [List.any_eq_false] at h
    constructor
    · intro e; cases e
    · rintro ⟨⟨x, hx, hc⟩, _⟩; exact absurd hc (h x hx)
  · rw [if_pos rfl]
    constructor
    · intro e; exact ⟨List.any_eq_true.1 h, (Option.some.inj e).symm⟩
    · rintro ⟨_, rfl⟩; rfl
theorem cnt_nm {n : ByteArray} {x : Oc} (h : cnt n x = true) : x.s.nm = n ∧ ¬ x.s.b = 0 := by
  unfold cnt nmB at h
  simp at h
  exact ⟨h.2, h.1⟩
/-- One that holds just once. -/
theorem once {α : Type} {p : α → Bool} {l : List α} (h : l.countP p ≤ 1) {x y : α} (hx : x ∈ l) (hy : y ∈ l) (px : p x = true) (py : p y = true) : x = y := by
  rw [List.countP_eq_length_filter] at h
  have h1 : x ∈ l.filter p := List.mem_filter.2 ⟨hx, px⟩
  have h2 : y ∈ l.filter p := List.mem_filter.2 ⟨hy, py⟩
  generalize l.filter p = z at h h1 h2
  match z, h, h1, h2 with
  | [], _, h1, _ => cases h1
  | [z], _, h1, h2 => simp at h1 h2; rw [h1, h2]
  | _ :: _ :: _, h, _, _ => simp at h
/-- What an entry is. -/
theorem ent_is {l : List Oc} (hl : l.length ≤ 2097152) {n : ByteArray} {u : Us} (h : mU l n = some u) : (entOf (n, u)).nm = n ∧ ((u.d = false ∧ entOf (n, u) = ⟨n, -1, -1, 2, 0⟩) ∨ (u.d = true ∧ ∃ x ∈ l, cnt n x = true ∧ isDef x = true ∧ entOf (n, u) = enOf x ∧ (0 < (l.filter (cnt n)).countP isStr → isStr x = true))) := by
  obtain ⟨_, rfl⟩ := mU_some.1 h
  have S := useOf_spec l n hl
  unfold entOf
  cases hd : (useOf l n).d
  · exact ⟨rfl, .inl ⟨rfl, rfl⟩⟩
  · obtain ⟨x, h1, h2, h3, h4⟩ := S.m hd
    obtain ⟨hx, hc⟩ := List.mem_filter.1 h1
    simp only [if_true]
    exact ⟨by rw [h3]; exact (cnt_nm hc).1, .inr ⟨trivial, x, hx, hc, h2, h3, h4⟩⟩
theorem ftOf_nil {α : Type} {e : Int} {p : α → Bool} {L : List (ByteArray × α)} : ftOf e p L = [] ↔ ∀ r ∈ L, p r.2 = false := by
  unfold ftOf
  rw [List.map_eq_nil_iff, List.filter_eq_nil_iff]
  constructor
  · intro h r hr; simpa using h r hr
  · intro h r hr; rw [h r hr]; simp
theorem faults_nil {l : List Fl} (h : faultsL l = []) : (∀ r ∈ rowsU l, twice r.2 = false) ∧ (∀ r ∈ rowsU l, undef1 r.2 = false) ∧ (∀ r ∈ rowsU l, mixd r.2 = false) ∧ (∀ r ∈ rowsS l, r.2.un = false) := by
  unfold faultsL at h
  simp only [List.append_eq_nil_iff] at h
  obtain ⟨⟨⟨a, b⟩, c⟩, d⟩ := h
  exact ⟨ftOf_nil.1 a, ftOf_nil.1 b, ftOf_nil.1 c, ftOf_nil.1 d⟩
/-- Looked up among the entries. -/
theorem find_ents {l : List Fl} (R : RowsL l) (hl : (occ l).length ≤ 2097152) {n : ByteArray} {u : Us} (h : mU (occ l) n = some u) : findO (entsL l) n = some (entOf (n, u)) := by
  have hm : (n, u) ∈ rowsU l := (R.u.mem n u).2 h
  have hin : entOf (n, u) ∈ entsL l := List.mem_map.2 ⟨_, hm, rfl⟩
  unfold findO
  cases hf : (entsL l).find? (fun x => nmB x.nm n) with
  | none =>
    have := List.find?_eq_none.1 hf _ hin
    simp [nmB, (ent_is hl h).1] at this
  | some x =>
    have h1 := List.find?_some hf
    have h2 := List.mem_of_find?_eq_some hf
    obtain ⟨⟨n2, u2⟩, h3, rfl⟩ := List.mem_map.1 h2
    have h4 := (R.u.mem n2 u2).1 h3
    have e : n2 = n := by
      have := (ent_is hl h4).1
      unfold nmB at h1
      rw [this] at h1
      exact of_decide_eq_true h1
    subst e
    rw [h4] at h
    cases h
    rfl
/-- One object more takes no strong meaning away. -/
theorem more_ok {l : List Fl} {f : Fl} (R : RowsL l) (R2 : RowsL (l ++ [f])) (hl : (occ l).length ≤ 2097152) (hl2 : (occ (l ++ [f])).length ≤ 2097152) (hF : faultsL (l ++ [f]) = []) {e : En} (he : e ∈ entsL l) : (findO (entsL (l ++ [f])) e.nm).isSome = true ∧ (e.b = 1 → findX (entsL (l ++ [f])) e.nm = e) := by
  obtain ⟨⟨n, u⟩, h1, rfl⟩ := List.mem_map.1 he
  have hu := (R.u.mem n u).1 h1
  obtain ⟨hnm, hE⟩ := ent_is hl hu
  obtain ⟨⟨x, hx, hc⟩, _⟩ := mU_some.1 hu
  have hx2 : x ∈ occ (l ++ [f]) := by rw [occ_snoc]; exact List.mem_append_left _ hx
  have hu2 : mU (occ (l ++ [f])) n = some (useOf (occ (l ++ [f])) n) := mU_some.2 ⟨⟨x, hx2, hc⟩, rfl⟩
  have hfi := find_ents R2 hl2 hu2
  rw [hnm, hfi]
  refine ⟨rfl, fun hb => ?_⟩
  unfold findX
  rw [hfi]
  show entOf _ = entOf _
  rcases hE with ⟨_, h⟩ | ⟨_, y, hy, hcy, hdy, hey, _⟩
  · rw [h] at hb; simp at hb
  · have hsy : isStr y = true := by
      unfold isStr
      rw [hdy]
      rw [hey] at hb
      simpa [enOf] using hb
    have hy2 : y ∈ (occ (l ++ [f])).filter (cnt n) := List.mem_filter.2 ⟨by rw [occ_snoc]; exact List.mem_append_left _ hy, hcy⟩
    have S := useOf_spec (occ (l ++ [f])) n hl2
    have hpos : 0 < ((occ (l ++ [f])).filter (cnt n)).countP isStr := List.countP_pos_iff.2 ⟨y, hy2, hsy⟩
    have hone : ((occ (l ++ [f])).filter (cnt n)).countP isStr ≤ 1 := by
      have := (faults_nil hF).1 (n, useOf (occ (l ++ [f])) n) ((R2.u.mem _ _).2 hu2)
      unfold twice at this
      have h3 := of_decide_eq_false this
      rw [S.st] at h3
      omega
    obtain ⟨_, hE2⟩ := ent_is hl2 hu2
    rcases hE2 with ⟨hd, _⟩ | ⟨_, z, hz, hcz, _, hez, hsz⟩
    · rw [S.d] at hd
      have : ((occ (l ++ [f])).filter (cnt n)).any isDef = true := List.any_eq_true.2 ⟨y, hy2, hdy⟩
      rw [this] at hd; cases hd
    · have := once hone hy2 (List.mem_filter.2 ⟨hz, hcz⟩) hsy (hsz hpos)
      subst this
      rw [hez, hey]
end Go.Proofs.Ytgoaegembijdcaa
