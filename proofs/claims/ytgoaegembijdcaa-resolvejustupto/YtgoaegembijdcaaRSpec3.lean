/- Objects the other way round. -/
import Derived.Test.YtgoaegembijdcaaRSpec2
import Derived.Test.YtgoaegembijdcaaROpen
namespace Go.Proofs.Ytgoaegembijdcaa
open Go.ChangeShapes Go.WideShapes Go.ChangeAt Go.RowKit Go.Maps
set_option linter.unusedVariables false
set_option linter.unusedSimpArgs false

theorem rows_keys {α β : Type} {L : List (ByteArray × α)} {L' : List (ByteArray × β)} {m : ByteArray → Option α} {m' : ByteArray → Option β} (R : RowsOf L m) (R' : RowsOf L' m') (h : ∀ n, (m n).isSome = (m' n).isSome) : L.map (·.1) = L'.map (·.1) := by
  have e : L.map (fun r => (r.1, ())) = L'.map (fun r => (r.1, ())) := by
    refine rows_uni (α := Unit) ?_ ?_ fun x => ?_
    · exact List.pairwise_map.2 (R.up.imp fun h => h)
    · exact List.pairwise_map.2 (R'.up.imp fun h => h)
    · obtain ⟨n, u⟩ := x
      constructor
      · intro hx
        obtain ⟨r, hr, e⟩ := List.mem_map.1 hx
        injection e with e1 _
        have h1 := (R.mem r.1 r.2).1 hr
        rw [e1] at h1
        have h2 := h n
        rw [h1] at h2
        obtain ⟨v, hv⟩ := Option.isSome_iff_exists.1 h2.symm
        exact List.mem_map.2 ⟨(n, v), (R'.mem n v).2 hv, rfl⟩
      · intro hx
        obtain ⟨r, hr, e⟩ := List.mem_map.1 hx
        injection e with e1 _
        have h1 := (R'.mem r.1 r.2).1 hr
        rw [e1] at h1
        have h2 := h n
        rw [h1] at h2
        obtain ⟨v, hv⟩ := Option.isSome_iff_exists.1 h2
        exact List.mem_map.2 ⟨(n, v), (R.mem n v).2 hv, rfl⟩
  have e2 := congrArg (List.map Prod.fst) e
  simpa [List.map_map, Function.comp_def] using e2
theorem ftOf_keys {α : Type} (e : Int) (p : α → Bool) (m : ByteArray → Option α) : ∀ L : List (ByteArray × α), (∀ r ∈ L, m r.1 = some r.2) → ftOf e p L = (L.map (·.1)).filterMap (fun n => (m n).bind (fun u => if p u then some ⟨e, n⟩ else none))
  | [], _ => rfl
  | r :: L, h => by
    have h1 := h r (by simp)
    have ih := ftOf_keys e p m L (fun x hx => h x (by simp [hx]))
    unfold ftOf at ih ⊢
    rw [List.map_cons, List.filterMap_cons, h1, List.filter_cons]
    cases hp : p r.2
    · simpa [hp] using ih
    · simpa [hp] using ih
theorem ftOf_same {α : Type} {L L' : List (ByteArray × α)} {m m' : ByteArray → Option α} (R : RowsOf L m) (R' : RowsOf L' m') (h : ∀ n, (m n).isSome = (m' n).isSome) (e : Int) (p : α → Bool) (hp : ∀ n u u', m n = some u → m' n = some u' → p u = p u') : ftOf e p L = ftOf e p L' := by
  rw [ftOf_keys e p m L (fun r hr => (R.mem r.1 r.2).1 hr), ftOf_keys e p m' L' (fun r hr => (R'.mem r.1 r.2).1 hr), rows_keys R R' h]
  congr 1
  funext n
  have h1 := h n
  cases hm : m n with
  | none => rw [hm] at h1; cases hm' : m' n with
    | none => rfl
    | some u' => rw [hm'] at h1; cases h1
  | some u => rw [hm] at h1; cases hm' : m' n with
    | none => rw [hm'] at h1; cases h1
    | some u' => simp only [Option.bind_some]; rw [hp n u u' hm hm']

def up (x : Oc) : Oc := ⟨x.o + 1, x.k, x.s⟩
theorem occ_cons (f : Fl) (r : List Fl) : occ (f :: r) = ocs 0 f.syms ++ (occ r).map up := by
  unfold occ
  rw [List.zipIdx_cons, List.flatMap_cons]
  congr 1
  have e : r.zipIdx 1 = r.zipIdx.map (fun p => (p.1, p.2 + 1)) := by
    apply List.ext_getElem?
    intro i
    simp only [List.getElem?_zipIdx, List.getElem?_map, Option.map_map]
    congr 1
    funext a
    show (a, _) = (a, _)
    rw [Nat.add_comm 1 i, Nat.zero_add]
  rw [show (0 : Nat) + 1 = 1 from rfl, e, List.flatMap_map, List.map_flatMap]
  congr 1
  funext p
  unfold ocs
  rw [List.map_map]
  rfl
/-- What does not ask for the object. -/
def Ign (p : Oc → Bool) : Prop := ∀ o o' k s, p ⟨o, k, s⟩ = p ⟨o', k, s⟩
theorem count_ocs {p : Oc → Bool} (h : Ign p) (o o' : Nat) (l : List Sym) : (ocs o l).countP p = (ocs o' l).countP p := by
  unfold ocs
  rw [List.countP_map, List.countP_map]
  congr 1
  funext q
  exact h _ _ _ _
theorem count_rev {p : Oc → Bool} (h : Ign p) : ∀ l : List Fl, (occ l.reverse).countP p = (occ l).countP p
  | [] => rfl
  | f :: r => by
    rw [List.reverse_cons, occ_snoc, occ_cons, List.countP_append, List.countP_append, count_rev h r, count_ocs h _ 0, List.countP_map]
    have : p ∘ up = p := by funext x; exact h _ _ _ _
    rw [this]
    omega
theorem count_cnt {p : Oc → Bool} (h : Ign p) (l : List Fl) (n : ByteArray) : ((occ l.reverse).filter (cnt n)).countP p = ((occ l).filter (cnt n)).countP p := by
  rw [List.countP_filter, List.countP_filter]
  exact count_rev (fun o o' k s => by rw [h o o' k s]; rfl) l
theorem any_count {α : Type} (p : α → Bool) (l : List α) : l.any p = decide (0 < l.countP p) := by
  cases h : l.any p
  · rw [List.any_eq_false] at h
    have : l.countP p = 0 := List.countP_eq_zero.2 h
    rw [this]; rfl
  · obtain ⟨x, h1, h2⟩ := List.any_eq_true.1 h
    exact (decide_eq_true (List.countP_pos_iff.2 ⟨x, h1, h2⟩)).symm
theorem ign_def : Ign isDef := fun _ _ _ _ => rfl
theorem ign_str : Ign isStr := fun _ _ _ _ => rfl
theorem ign_wan : Ign isWan := fun _ _ _ _ => rfl
theorem ign_tl : Ign isTl := fun _ _ _ _ => rfl
theorem ign_ot : Ign isOt := fun _ _ _ _ => rfl
theorem occ_rev_len (l : List Fl) : (occ l.reverse).length = (occ l).length := by
  have := count_rev (p := fun _ => true) (fun _ _ _ _ => rfl) l
  simpa using this
theorem some_rev (l : List Fl) (n : ByteArray) : (mU (occ l.reverse) n).isSome = (mU (occ l) n).isSome := by
  have e : (occ l.reverse).any (cnt n) = (occ l).any (cnt n) := by
    rw [any_count, any_count, count_rev (p := cnt n) (fun _ _ _ _ => rfl) l]
  unfold mU
  rw [e]
  cases (occ l).any (cnt n) <;> rfl
/-- What is known of a name, both ways round. -/
structure SameU (u v : Us) : Prop where
  st : u.st = v.st
  d : u.d = v.d
  wa : u.wa = v.wa
  tl : u.tl = v.tl
  ot : u.ot = v.ot
theorem use_rev (l : List Fl) (hl : (occ l).length ≤ 2097152) (n : ByteArray) : SameU (useOf (occ l) n) (useOf (occ l.reverse) n) := by
  have S := useOf_spec (occ l) n hl
  have S' := useOf_spec (occ l.reverse) n (by rw [occ_rev_len]; exact hl)
  refine ⟨?_, ?_, ?_, ?_, ?_⟩
  · rw [S.st, S'.st, count_cnt ign_str]
  · rw [S.d, S'.d, any_count, any_count, count_cnt ign_def]
  · rw [S.wa, S'.wa, any_count, any_count, count_cnt ign_wan]
  · rw [S.tl, S'.tl, any_count, any_count, count_cnt ign_tl]
  · rw [S.ot, S'.ot, any_count, any_count, count_cnt ign_ot]

/-- What is known of a section's name. -/
structure SpecS (xs : List Sec) (u : Sh) : Prop where
  th : u.th = !xs.isEmpty
  fi : ∀ y r, xs = y :: r → u.k = y.ty ∧ u.f = y.fl
  un : u.un = true ↔ ∃ a ∈ xs, ∃ b ∈ xs, a.ty ≠ b.ty ∨ a.fl ≠ b.fl
theorem spec_shape : ∀ xs : List Sec, SpecS xs (xs.foldl (fun u s => withS u s.ty s.fl) Sh.zero) := by
  intro xs
  induction xs using list_snoc with
  | h0 => exact ⟨rfl, (fun y r h => by cases h), by simp [Sh.zero]⟩
  | h1 l x ih =>
    rw [List.foldl_append]
    show SpecS (l ++ [x]) (withS (l.foldl (fun u s => withS u s.ty s.fl) Sh.zero) x.ty x.fl)
    generalize l.foldl (fun u s => withS u s.ty s.fl) Sh.zero = u at ih
    cases l with
    | nil =>
      have ht : u.th = false := ih.th
      unfold withS
      rw [ht]
      exact ⟨rfl, (fun y r h => by injection h with h1 _; subst h1; exact ⟨rfl, rfl⟩), by simp⟩
    | cons y r =>
      have ht : u.th = true := ih.th
      obtain ⟨hk, hf⟩ := ih.fi y r rfl
      unfold withS
      rw [ht, if_pos rfl]
      refine ⟨rfl, fun y' r' h => ?_, ?_⟩
      · injection h with h1 _
        subst h1
        exact ⟨hk, hf⟩
      · have hun := ih.un
        simp only [Bool.or_eq_true, hk, hf]
        rw [hun]
        constructor
        · rintro (⟨a, ha, b, hb, h⟩ | h)
          · exact ⟨a, List.mem_append_left _ ha, b, List.mem_append_left _ hb, h⟩
          · refine ⟨x, by simp, y, by simp, ?_⟩
            simp at h
            by_cases e : x.ty = y.ty
            · by_cases e2 : x.fl = y.fl
              · simp [e, e2] at h
              · exact .inr e2
            · exact .inl e
        · rintro ⟨a, ha, b, hb, h⟩
          by_cases hx : x.ty = y.ty ∧ x.fl = y.fl
          · left
            have rep : ∀ c ∈ (y :: r) ++ [x], ∃ d ∈ y :: r, d.ty = c.ty ∧ d.fl = c.fl := by
              intro c hc
              rcases List.mem_append.1 hc with hc | hc
              · exact ⟨c, hc, rfl, rfl⟩
              · simp at hc; subst hc; exact ⟨y, by simp, hx.1.symm, hx.2.symm⟩
            obtain ⟨a', ha', e1, e2⟩ := rep a ha
            obtain ⟨b', hb', e3, e4⟩ := rep b hb
            exact ⟨a', ha', b', hb', by rw [e1, e2, e3, e4]; exact h⟩
          · right
            by_cases e : x.ty = y.ty
            · by_cases e2 : x.fl = y.fl
              · exact absurd ⟨e, e2⟩ hx
              · simp [e2]
            · simp [e]
theorem shOf_un (ss : List Sec) (n : ByteArray) : (shOf ss n).un = true ↔ ∃ a ∈ ss, ∃ b ∈ ss, a.nm = n ∧ b.nm = n ∧ (a.ty ≠ b.ty ∨ a.fl ≠ b.fl) := by
  have S := (spec_shape (ss.filter (secN n))).un
  unfold shOf
  rw [S]
  constructor
  · rintro ⟨a, ha, b, hb, h⟩
    obtain ⟨h1, h2⟩ := List.mem_filter.1 ha
    obtain ⟨h3, h4⟩ := List.mem_filter.1 hb
    exact ⟨a, h1, b, h3, of_decide_eq_true h2, of_decide_eq_true h4, h⟩
  · rintro ⟨a, ha, b, hb, e1, e2, h⟩
    exact ⟨a, List.mem_filter.2 ⟨ha, decide_eq_true e1⟩, b, List.mem_filter.2 ⟨hb, decide_eq_true e2⟩, h⟩
theorem mS_isSome (ss : List Sec) (n : ByteArray) : (mS ss n).isSome = true ↔ ∃ a ∈ ss, a.nm = n := by
  unfold mS
  cases h : ss.any (secN n)
  · rw [List.any_eq_false] at h
    constructor
    · intro e; cases e
    · rintro ⟨a, ha, e⟩; exact absurd (decide_eq_true e) (h a ha)
  · obtain ⟨a, ha, e⟩ := List.any_eq_true.1 h
    exact ⟨fun _ => ⟨a, ha, of_decide_eq_true e⟩, fun _ => rfl⟩
theorem mS_some {ss : List Sec} {n : ByteArray} {u : Sh} (h : mS ss n = some u) : u = shOf ss n := by
  unfold mS at h
  split at h
  · exact (Option.some.inj h).symm
  · cases h
theorem mem_secs_rev (l : List Fl) (s : Sec) : s ∈ l.reverse.flatMap (·.secs) ↔ s ∈ l.flatMap (·.secs) := by
  simp [List.mem_flatMap]

theorem errL_zero (l : List Fl) : errL l = 0 ↔ ∀ f ∈ l, errF f = 0 := by
  induction l with
  | nil => simp [errL]
  | cons f r ih =>
    by_cases h : errF f = 0
    · rw [errL_good f r (by simp [h]), ih]
      simp [h]
    · rw [errL_bad f r (by simp [h])]
      simp [h]
theorem check_rev (l : List Fl) : checkL l.reverse = 0 ↔ checkL l = 0 := by
  unfold checkL
  rw [List.length_reverse]
  by_cases h : 16 < l.length
  · rw [if_pos h, if_pos h]
  · rw [if_neg h, if_neg h, errL_zero, errL_zero]
    simp
theorem faults_rev {l : List Fl} (R : RowsL l) (R' : RowsL l.reverse) (hl : (occ l).length ≤ 2097152) : faultsL l.reverse = faultsL l := by
  have hu : ∀ n, (mU (occ l.reverse) n).isSome = (mU (occ l) n).isSome := some_rev l
  have hsame : ∀ n u u', mU (occ l.reverse) n = some u → mU (occ l) n = some u' → SameU u' u := fun n u u' h h' => by
    rw [(mU_some.1 h).2, (mU_some.1 h').2]
    exact use_rev l hl n
  have hs : ∀ n, (mS (l.reverse.flatMap (·.secs)) n).isSome = (mS (l.flatMap (·.secs)) n).isSome := fun n => by
    rw [Bool.eq_iff_iff, mS_isSome, mS_isSome]
    constructor
    · rintro ⟨a, ha, e⟩; exact ⟨a, (mem_secs_rev l a).1 ha, e⟩
    · rintro ⟨a, ha, e⟩; exact ⟨a, (mem_secs_rev l a).2 ha, e⟩
  unfold faultsL
  rw [ftOf_same R'.u R.u hu 180 twice (fun n u u' h h' => by have := hsame n u u' h h'; unfold twice; rw [this.st]),
    ftOf_same R'.u R.u hu 181 undef1 (fun n u u' h h' => by have := hsame n u u' h h'; unfold undef1; rw [this.wa, this.d]),
    ftOf_same R'.u R.u hu 182 mixd (fun n u u' h h' => by have := hsame n u u' h h'; unfold mixd; rw [this.tl, this.ot]),
    ftOf_same R'.s R.s hs 182 Sh.un (fun n u u' h h' => by
      rw [mS_some h, mS_some h', Bool.eq_iff_iff, shOf_un, shOf_un]
      constructor
      · rintro ⟨a, ha, b, hb, h⟩; exact ⟨a, (mem_secs_rev l a).1 ha, b, (mem_secs_rev l b).1 hb, h⟩
      · rintro ⟨a, ha, b, hb, h⟩; exact ⟨a, (mem_secs_rev l a).2 ha, b, (mem_secs_rev l b).2 hb, h⟩)]
theorem mem_rev {l : List Fl} {x : Oc} (h : x ∈ occ l.reverse) : x.o < l.length ∧ (⟨l.length - 1 - x.o, x.k, x.s⟩ : Oc) ∈ occ l := by
  obtain ⟨f, h1, h2⟩ := mem_occ.1 h
  have hlt : x.o < l.length := by
    have := (List.getElem?_eq_some_iff.1 h1).1
    simpa using this
  rw [List.getElem?_reverse hlt] at h1
  exact ⟨hlt, mem_occ.2 ⟨f, h1, h2⟩⟩
/-- Binds: what Check lets by. -/
def BindOk (l : List Fl) : Prop := ∀ x ∈ occ l, x.s.b = 0 ∨ x.s.b = 1 ∨ x.s.b = 2
theorem ents_rev {l : List Fl} (R : RowsL l) (R' : RowsL l.reverse) (hl : (occ l).length ≤ 2097152) (hF : faultsL l = []) (hb : BindOk l) : (entsL l.reverse).length = (entsL l).length ∧ ∀ i (h : i < (entsL l).length) (h' : i < (entsL l.reverse).length), (entsL l)[i].nm = (entsL l.reverse)[i].nm ∧ (entsL l)[i].b = (entsL l.reverse)[i].b ∧ ((entsL l)[i].b = 1 → (entsL l)[i].o = (l.length : Int) - 1 - (entsL l.reverse)[i].o ∧ (entsL l)[i].k = (entsL l.reverse)[i].k) := by
  have hkeys := rows_keys R'.u R.u (some_rev l)
  have hlen : (rowsU l.reverse).length = (rowsU l).length := by
    have := congrArg List.length hkeys
    simpa using this
  refine ⟨by unfold entsL; simp [hlen], fun i h h' => ?_⟩
  have hi : i < (rowsU l).length := by unfold entsL at h; simpa using h
  have hi' : i < (rowsU l.reverse).length := by rw [hlen]; exact hi
  have ents_at : ∀ (q : List Fl) (j : Nat) (h1 : j < (entsL q).length) (h2 : j < (rowsU q).length), (entsL q)[j] = entOf (rowsU q)[j] := fun q j h1 h2 => by
    have : (entsL q)[j]? = some (entOf (rowsU q)[j]) := by unfold entsL; rw [List.getElem?_map, List.getElem?_eq_getElem h2]; rfl
    rw [List.getElem?_eq_getElem h1] at this
    exact Option.some.inj this
  have e1 := ents_at l i h hi
  have e2 := ents_at l.reverse i h' hi'
  rw [e1, e2]
  have hk : (rowsU l.reverse)[i].1 = (rowsU l)[i].1 := by
    have a1 : ((rowsU l.reverse).map (·.1))[i]? = ((rowsU l).map (·.1))[i]? := by rw [hkeys]
    rw [List.getElem?_map, List.getElem?_map, List.getElem?_eq_getElem hi, List.getElem?_eq_getElem hi'] at a1
    simpa using a1
  have m1 := (R.u.mem (rowsU l)[i].1 (rowsU l)[i].2).1 (List.getElem_mem hi)
  have m2 := (R'.u.mem (rowsU l.reverse)[i].1 (rowsU l.reverse)[i].2).1 (List.getElem_mem hi')
  have hF1 := (faults_nil hF).1 _ (List.getElem_mem hi)
  generalize (rowsU l)[i] = r at *
  generalize (rowsU l.reverse)[i] = r' at *
  obtain ⟨n, u⟩ := r
  obtain ⟨n', u'⟩ := r'
  dsimp only at *
  subst hk
  have hl' : (occ l.reverse).length ≤ 2097152 := by rw [occ_rev_len]; exact hl
  obtain ⟨a1, a2⟩ := ent_is hl m1
  obtain ⟨b1, b2⟩ := ent_is hl' m2
  have S := useOf_spec (occ l) n' hl
  have hue := (mU_some.1 m1).2
  have hue' := (mU_some.1 m2).2
  have hsame := use_rev l hl n'
  rw [← hue, ← hue'] at hsame
  refine ⟨by rw [a1, b1], ?_⟩
  have hbd : ∀ x : Oc, cnt n' x = true → isDef x = true → (x.s.b = 0 ∨ x.s.b = 1 ∨ x.s.b = 2) → x.s.b = if isStr x then 1 else 2 := by
    intro x hc hd hx
    have h0 := (cnt_nm hc).2
    unfold isStr
    rw [hd]
    rcases hx with hx | hx | hx
    · exact absurd hx h0
    · rw [hx]; rfl
    · rw [hx]; rfl
  have hbind' : ∀ x ∈ occ l.reverse, x.s.b = 0 ∨ x.s.b = 1 ∨ x.s.b = 2 := fun x hx => hb ⟨l.length - 1 - x.o, x.k, x.s⟩ (mem_rev hx).2
  rcases a2 with ⟨d1, c1⟩ | ⟨d1, x, hx, hcx, hdx, hex, hsx⟩
  · rcases b2 with ⟨d2, c2⟩ | ⟨d2, _⟩
    · rw [c1, c2]; simp
    · rw [hsame.d, d2] at d1; cases d1
  · rcases b2 with ⟨d2, _⟩ | ⟨_, y, hy, hcy, hdy, hey, hsy⟩
    · rw [hsame.d, d2] at d1; cases d1
    · have hcc : ((occ l.reverse).filter (cnt n')).countP isStr = ((occ l).filter (cnt n')).countP isStr := count_cnt ign_str l n'
      obtain ⟨hyo, hy2⟩ := mem_rev hy
      have hcy2 : cnt n' ⟨l.length - 1 - y.o, y.k, y.s⟩ = true := hcy
      by_cases hpos : 0 < ((occ l).filter (cnt n')).countP isStr
      · have sx := hsx hpos
        have sy := hsy (by rw [hcc]; exact hpos)
        have hone : ((occ l).filter (cnt n')).countP isStr ≤ 1 := by
          unfold twice at hF1
          have h3 := of_decide_eq_false hF1
          rw [hue, S.st] at h3
          omega
        have e := once hone (List.mem_filter.2 ⟨hx, hcx⟩) (List.mem_filter.2 ⟨hy2, hcy2⟩) sx (show isStr ⟨l.length - 1 - y.o, y.k, y.s⟩ = true from sy)
        rw [hex, hey, e]
        refine ⟨rfl, fun _ => ⟨?_, rfl⟩⟩
        show ((l.length - 1 - y.o : Nat) : Int) = (l.length : Int) - 1 - (y.o : Int)
        omega
      · have nx : isStr x = false := by
          cases h : isStr x
          · rfl
          · exact absurd (List.countP_pos_iff.2 ⟨x, List.mem_filter.2 ⟨hx, hcx⟩, h⟩) hpos
        have ny : isStr y = false := by
          cases h : isStr y
          · rfl
          · exact absurd (by rw [← hcc]; exact List.countP_pos_iff.2 ⟨y, List.mem_filter.2 ⟨hy, hcy⟩, h⟩) hpos
        have e1 := hbd x hcx hdx (hb x hx)
        have e2 := hbd y hcy hdy (hbind' y hy)
        rw [nx] at e1
        rw [ny] at e2
        rw [hex, hey]
        simp [enOf, e1, e2]
end Go.Proofs.Ytgoaegembijdcaa
