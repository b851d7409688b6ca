/- Place. -/
import Derived.Test.YtojiomkinhnodaaYTell
namespace Go.Proofs.Ytojiomkinhnodaa
open Go.ChangeShapes Go.WideShapes Go.ChangeAt Go.RowKit Go.Maps
set_option linter.unusedVariables false
set_option linter.unusedSimpArgs false

/-- What Check takes. -/
def DnB (l : List Fl) : Prop := ∀ f ∈ l, ∀ s ∈ f.secs, s.dn ≤ 1073741824
theorem errL_0 : ∀ (l : List Fl), errL l = 0 → ∀ f ∈ l, errF f = 0
  | [], _, f, h => by cases h
  | g :: r, h, f, hf => by
    unfold errL at h
    split at h
    · rename_i h2
      simp at h2
      exact absurd h h2
    · rename_i h2
      simp at h2
      rcases List.mem_cons.1 hf with rfl | hf
      · exact h2
      · exact errL_0 r h f hf
theorem checkL_0 {l : List Fl} (h : checkL l = 0) : l.length ≤ 16 ∧ ∀ f ∈ l, f.secs.length ≤ 64 ∧ ∀ s ∈ f.secs, secB s = true := by
  unfold checkL at h
  split at h
  · cases h
  · rename_i h2
    refine ⟨by omega, fun f hf => ?_⟩
    have h3 := errL_0 l h f hf
    unfold errF at h3
    split at h3
    · rename_i h4
      rw [h3] at h4
      simp at h4
    · rename_i h4
      have h5 : checkE f.syms (f.secs.map (·.nm)) = 0 := by simpa using h4
      split at h3
      · rename_i h6
        refine ⟨?_, ?_⟩
        · unfold checkE at h5
          split at h5
          · cases h5
          · rename_i h7
            unfold muchB at h7
            simp at h7
            omega
        · unfold rightF at h6
          simp only [Bool.and_eq_true, List.all_eq_true] at h6
          exact h6.1
      · cases h3
theorem secB_ok {s : Sec} (h : secB s = true) (hd : s.dn ≤ 1073741824) : (∃ j : Nat, j ≤ 12 ∧ s.al = 2 ^ j) ∧ 0 ≤ s.sz ∧ s.sz ≤ 1073741824 := by
  unfold secB at h
  split at h
  · cases h
  · rename_i h1
    have ha : alB s.al = true := by simp at h1; exact h1.2
    unfold alB at ha
    simp only [Bool.and_eq_true, decide_eq_true_eq, beq_iff_eq] at ha
    have hw : wrap64 (s.al - 1) = s.al - 1 := by unfold wrap64; omega
    rw [hw] at ha
    obtain ⟨j, hj, e⟩ := pow2_of s.al (by omega) (by omega) ha.2.2
    refine ⟨⟨j, ?_, e⟩, ?_⟩
    · by_cases h12 : j ≤ 12
      · exact h12
      · have h13 : (2 : Int) ^ 13 ≤ 2 ^ j := by
          have e13 : (2 : Int) ^ j = 2 ^ 13 * 2 ^ (j - 13) := by rw [← Int.pow_add]; congr 1; omega
          have := pow_pos2 (j - 13)
          rw [e13]; omega
        have : (2 : Int) ^ 13 = 8192 := by decide
        omega
    · split at h
      · simp at h; omega
      · split at h
        · simp at h; omega
        · cases h
theorem sOk_of {l : List Fl} (h : checkL l = 0) (hd : DnB l) : SOk (socc l) := by
  obtain ⟨_, h2⟩ := checkL_0 h
  have hx : ∀ x ∈ socc l, (∃ j : Nat, j ≤ 12 ∧ x.s.al = 2 ^ j) ∧ 0 ≤ x.s.sz ∧ x.s.sz ≤ 1073741824 := fun x hx => by
    obtain ⟨f, hf, hk⟩ := mem_socc.1 hx
    have h3 := List.mem_of_getElem? hf
    have h4 := List.mem_of_getElem? hk
    exact secB_ok ((h2 f h3).2 x.s h4) (hd f h3 x.s h4)
  exact ⟨socc_up l, fun x h => (hx x h).1, fun x h => (hx x h).2⟩
theorem uB_of {l : List Fl} (hb : FlsB l) : UB (socc l) :=
  ⟨fun x hx => by
    obtain ⟨f, hf, hk⟩ := mem_socc.1 hx
    have h3 := (List.getElem?_eq_some_iff.1 hf).1
    have h4 := (List.getElem?_eq_some_iff.1 hk).1
    have := hb.n
    have := (hb.each f (List.mem_of_getElem? hf)).ns
    omega, fun x hx => by
    obtain ⟨f, hf, hk⟩ := mem_socc.1 hx
    exact (hb.each f (List.mem_of_getElem? hf)).zs _ (List.mem_of_getElem? hk)⟩
theorem k64_of {l : List Fl} (h : checkL l = 0) : ∀ x ∈ socc l, x.k < 64 := fun x hx => by
  obtain ⟨f, hf, hk⟩ := mem_socc.1 hx
  have h4 := (List.getElem?_eq_some_iff.1 hk).1
  have := ((checkL_0 h).2 f (List.mem_of_getElem? hf)).1
  omega

/-- Its error; where it leaves what it has found. -/
def layS (l : List Fl) : Option St := if checkL l = 0 ∧ okG [] (socc l) = true then layL (socc l) (ord (socc l)) st0 else none
def PlEnd (l : List Fl) (w : World) (e : Ending) (w' : World) : Prop :=
  Below w.heap.size w w' ∧ ((layS l = none ∧ ∃ E : Int, E ≠ 0 ∧ e = .returned (.tuple #[.agg #[.slice none 0 0, .slice none 0 0, .slice none 0 0, .int .i64 0, .int .i64 0, .int .i64 0, .int .i64 0, .int .i64 0], .int .i64 E])) ∨
    ∃ st k sa sc, layS l = some st ∧ checkL l = 0 ∧ e = .returned (.tuple #[.agg (mapC k st.en sa (segsL st.outs).length sc (tnL (segsL st.outs))), .int .i64 0]) ∧
      k.on' = st.outs.length ∧ k.vn = l.length ∧ AT w' w.heap.size (.slice k.va k.vn k.vc) k.bs (l.map (·.secs.length)) st.at' ∧ OwnR 47 6 encO w' w.heap.size (.slice k.oa k.on' k.oc) st.outs ∧ OwnR 57 7 encG w' w.heap.size (.slice sa (segsL st.outs).length sc) (segsL st.outs))
theorem layL_en {U : List So} : ∀ {L : List So} {st st' : St}, layL U L st = some st' → st.en ≤ 16777216 → st'.en ≤ 16777216
  | [], st, st', h, h0 => by
    have : st = st' := by simpa [layL] using h
    rw [← this]; exact h0
  | x :: r, st, st', h, h0 => by
    unfold layL at h
    split at h
    · cases h
    · exact layL_en (L := r) h (by omega)
theorem layS_li {l : List Fl} {st : St} (h : layS l = some st) (hd : DnB l) : LI (socc l) (ord (socc l)) st ∧ SOk (socc l) ∧ st.en ≤ 16777216 := by
  unfold layS at h
  split at h
  · rename_i h1
    have hs := sOk_of h1.1 hd
    have h2 := LI.done hs
    rw [layL_some h] at h2
    exact ⟨h2, hs, layL_en h (by decide)⟩
  · cases h
theorem res_map {fn : Func} {q u : Tmp} (h : fn.results = #[.cell q 28, .tmp u]) (tmps : Array Value) (w : World) (g : Nat) (cs : Array Value) (v : Value) (hc : cs.size = 8) (hp : tmps.getD q undef = .pointer (some ⟨g, 0, none⟩)) (hg : Bk w g 28 cs) (hu : tmps.getD u undef = v) :
    (results fn tmps).run Try.prog w = .ok (.tuple #[.agg cs, v]) w := by
  rw [results_cell_tmp h, hp, hu]
  have hl := run_loadVar_row (P := Try.prog) w g 28 28 cs (0, 0) _ hg.hp Try.underlying28 rfl (by rw [sizeM, hc])
  simp [asAddr, hl, Result.andThen]

/-- Ends rise. -/
def ApO (x y : Ou) : Prop := x.ad + x.sz ≤ y.ad
theorem ar_one (o : Ou) : arL [o] = arO o.ad ⟨0, 0, o.ad, o.ad, 0, 0, 0⟩ o := rfl
theorem ar_snoc (fl : List Ou) (o : Ou) (h : fl ≠ []) : arL (fl ++ [o]) = arO (fl.headD default).ad (arL fl) o := by
  unfold arL
  cases fl with
  | nil => exact absurd rfl h
  | cons a r => simp [List.foldl_append]
theorem pow_max {a b : Int} (ha : ∃ j : Nat, j ≤ 12 ∧ a = 2 ^ j) (hb : ∃ j : Nat, j ≤ 12 ∧ b = 2 ^ j) : ∃ j : Nat, j ≤ 12 ∧ max a b = 2 ^ j := by
  by_cases h : a ≤ b
  · rw [Int.max_eq_right h]; exact hb
  · rw [Int.max_eq_left (by omega)]; exact ha
theorem snoc_ind {α : Type} {P : List α → Prop} (h0 : P []) (h1 : ∀ l x, P l → P (l ++ [x])) (l : List α) : P l := by
  rw [← List.reverse_reverse l]
  induction l.reverse with
  | nil => exact h0
  | cons x r ih => rw [List.reverse_cons]; exact h1 _ _ ih
structure ArF (fl : List Ou) : Prop where
  pow : ∃ j : Nat, j ≤ 12 ∧ (arL fl).al = 2 ^ j
  ad : (arL fl).ad = (fl.headD default).ad
  sz : 0 ≤ (arL fl).sz ∧ (arL fl).sz ≤ (arL fl).me
  lt : ∀ o ∈ fl, (arL fl).ad ≤ o.ad ∧ o.ad + o.sz ≤ (arL fl).ad + (arL fl).me
  eq : ∃ o ∈ fl, o.ad + o.sz = (arL fl).ad + (arL fl).me
theorem ar_facts (fl : List Ou) : fl ≠ [] → fl.Pairwise ApO → (∀ o ∈ fl, 0 ≤ o.sz) → (∀ o ∈ fl, ∃ j : Nat, j ≤ 12 ∧ o.al = 2 ^ j) → ArF fl := by
  refine snoc_ind (P := fun fl => fl ≠ [] → fl.Pairwise ApO → (∀ o ∈ fl, 0 ≤ o.sz) → (∀ o ∈ fl, ∃ j : Nat, j ≤ 12 ∧ o.al = 2 ^ j) → ArF fl) (fun h => absurd rfl h) ?_ fl
  clear fl
  intro fl o ih _ hp h0 hpw
  have ho : o ∈ fl ++ [o] := by simp
  have ho0 := h0 o ho
  obtain ⟨jo, hjo, hpo⟩ := hpw o ho
  by_cases hf : fl = []
  · subst hf
    show ArF [o]
    have e := ar_one o
    refine ⟨⟨jo, hjo, ?_⟩, ?_, ?_, ?_, ?_⟩
    · rw [e]; show max 0 o.al = _; have := pow_pos2 jo; rw [hpo, Int.max_eq_right (by omega)]
    · rw [e]; rfl
    · rw [e]; unfold arO; dsimp only; split <;> omega
    · rw [e]; unfold arO; dsimp only; intro x hx; simp at hx; subst hx; omega
    · exact ⟨o, by simp, by rw [e]; unfold arO; dsimp only; omega⟩
  · rw [List.pairwise_append] at hp
    have h := ih hf hp.1 (fun x hx => h0 x (by simp [hx])) (fun x hx => hpw x (by simp [hx]))
    have e := ar_snoc fl o hf
    obtain ⟨x0, hx0, hx0e⟩ := h.eq
    have hx1 := hp.2.2 x0 hx0 o (by simp)
    have h2 := h.lt x0 hx0
    have h00 := h0 x0 (by simp [hx0])
    have had := h.ad
    unfold ApO at hx1
    have hhd : ((fl ++ [o]).headD default) = fl.headD default := by
      cases fl with
      | nil => exact absurd rfl hf
      | cons a r => rfl
    have ead : (arL (fl ++ [o])).ad = (arL fl).ad := by rw [e]; rfl
    have eme : (arL (fl ++ [o])).me = o.ad + o.sz - (fl.headD default).ad := by rw [e]; rfl
    refine ⟨?_, by rw [ead, had, hhd], ?_, ?_, ?_⟩
    · have : (arL (fl ++ [o])).al = max (arL fl).al o.al := by rw [e]; rfl
      rw [this]; exact pow_max h.pow ⟨jo, hjo, hpo⟩
    · have hsz := h.sz
      have : (arL (fl ++ [o])).sz = if o.ty == 8 then (arL fl).sz else o.ad + o.sz - (fl.headD default).ad := by rw [e]; rfl
      rw [this, eme]
      split <;> omega
    · intro x hx
      rw [ead, eme]
      rcases List.mem_append.1 hx with hx | hx
      · have h3 := h.lt x hx
        omega
      · simp at hx; subst hx; omega
    · exact ⟨o, ho, by rw [ead, eme]; omega⟩
theorem LI.apart {U D : List So} {st : St} (h : LI U D st) : st.outs.Pairwise ApO := by
  rw [List.pairwise_iff_getElem]
  intro i j hi hj hij
  have h1 := (h.rise j hj).1
  have h2 := (cend_le (fun k hk => ⟨(h.rise k hk).1, (h.rise k hk).2.1⟩) j (by omega)).2 i hi hij
  unfold ApO
  omega
theorem LI.flt {U D : List So} {st : St} (h : LI U D st) (p : Ou → Bool) (hne : st.outs.filter p ≠ []) : ArF (st.outs.filter p) :=
  ar_facts _ hne (h.apart.sublist List.filter_sublist) (fun o ho => (h.each o (List.mem_filter.1 ho).1).2.1) (fun o ho => h.pow o (List.mem_filter.1 ho).1)
theorem LI.ouB {U D : List So} {st : St} (h : LI U D st) (he : st.en ≤ 16777216) : OuB st.outs := fun o ho => by
  have := h.each o ho
  omega
theorem LI.sgB {U D : List So} {st : St} (h : LI U D st) (he : st.en ≤ 16777216) : SgB (segsL st.outs) := by
  intro s hs h7
  unfold segsL at hs
  obtain ⟨k, hk, hs⟩ := List.mem_flatMap.1 hs
  unfold segK at hs
  split at hs
  · cases hs
  · rename_i hne
    simp only [List.mem_singleton] at hs
    subst hs
    have hA := h.flt (inK k) hne
    have h71 : kd k = 7 := h7
    obtain ⟨o, ho, hoe⟩ := hA.eq
    have h2 := h.each o (List.mem_filter.1 ho).1
    have h3 := hA.sz
    have h4 := hA.ad
    have h5 : (st.outs.filter (inK k)).headD default ∈ st.outs.filter (inK k) := by
      cases e : st.outs.filter (inK k) with
      | nil => exact absurd e hne
      | cons a r => simp
    have h6 := h.each _ (List.mem_filter.1 h5).1
    unfold seg1
    rw [h71]
    dsimp only
    refine ⟨by omega, by omega, by omega, by omega, ?_⟩
    rw [if_neg (by decide)]
    exact hA.pow

theorem ord_len (U : List So) : (ord U).length ≤ U.length := by
  have h2 : ((ord U).map (·.s.nm)).length ≤ ((fsts U).map (·.s.nm)).length :=
    List.Nodup.length_le_of_subset (ord_nd U) (fun a ha => by
      obtain ⟨x, hx, rfl⟩ := List.mem_map.1 ha
      exact List.mem_map.2 ⟨x, (mem_ord.1 hx).1, rfl⟩)
  simp only [List.length_map] at h2
  exact Nat.le_trans h2 (fsts_sub U).length_le

set_option maxHeartbeats 16000000 in
set_option maxRecDepth 20000 in
theorem place_any (ao : Option Addr) (c : Nat) (l : List Fl) (w : World) (hb : FlsB l) (hd : DnB l) (hin : Fls w ao l) : Calls Try.prog 8 #[.slice ao l.length c] w fun e w' => PlEnd l w e w' := by
  obtain ⟨P, hP⟩ : ∃ P, w.heap.size = P := ⟨_, rfl⟩
  obtain ⟨w1, hw1⟩ : ∃ w1, w.alloc (.cells #[.slice none 0 0, .slice none 0 0, .slice none 0 0, .int .i64 0, .int .i64 0, .int .i64 0, .int .i64 0, .int .i64 0] 28) = w1 := ⟨_, rfl⟩
  have HB1 : Hid (Below P w w1) := ⟨by rw [← hw1, ← hP]; exact (Below.refl _ _).alloc (Nat.le_refl _) _⟩
  have HKP : Hid (Bk w1 P 28 #[.slice none 0 0, .slice none 0 0, .slice none 0 0, .int .i64 0, .int .i64 0, .int .i64 0, .int .i64 0, .int .i64 0]) := ⟨by rw [← hw1, ← hP]; exact Bk.new _ _ _⟩
  have HZ1 : Hid (w1.heap.size = P + 1) := ⟨by rw [← hw1, ← hP]; simp⟩
  have HFL : Hid (∀ W, Below (P + 1) w1 W → Fls W ao l) := ⟨fun W hW => hin.below (HB1.out.trans (hW.mono (Nat.le_succ P))) (by omega)⟩
  have HCK : Hid _ := ⟨pcheck_any ao c l w1 hb (HFL.out w1 (Below.refl _ _))⟩
  have HGA : Hid (∀ W, Below (P + 1) w1 W → _) := ⟨fun W hW => gather_any ao c l W hb (HFL.out W hW)⟩
  have HNW : Hid (∀ b W, Below (P + 1) w1 W → _) := ⟨fun b W hW => newWork_any ao c l b W hb (HFL.out W hW)⟩
  have HFB : Hid _ := ⟨hb⟩
  have HD : Hid _ := ⟨hd⟩
  have HLS : Hid (layS l = if checkL l = 0 ∧ okG [] (socc l) = true then layL (socc l) (ord (socc l)) st0 else none) := ⟨rfl⟩
  have HCO : Hid (checkL l = 0 → SOk (socc l) ∧ ∀ x ∈ socc l, x.k < 64) := ⟨fun h => ⟨sOk_of h hd, k64_of h⟩⟩
  clear hin hb hd
  go_enter Try.func8, Try.ntmps8
  go_upto_region 1 with (fail)
  clear hw1
  go_upto_region 2 with (go_at_call 17; refine HCK.out.mono ?_; rintro e w2 ⟨rfl, hb2⟩; have HB2 : Hid _ := ⟨hb2⟩; clear hb2)
  have HBX2 : Hid (Below (P + 1) w1 w2) := ⟨by rw [← HZ1.out]; exact HB2.out⟩
  clear HCK HB2
  by_cases hc : checkL l = 0
  · rw [hc]
    obtain ⟨hso, hk64⟩ := HCO.out hc
    go_upto_region 4 with (fail)
    go_upto_region 5 with (go_at_call 18; refine (HGA.out _ HBX2.out).mono ?_; rintro e w3 ⟨hG, hb3⟩; have HB3 : Hid _ := ⟨hb3⟩; clear hb3; rcases hG with ⟨hok, rfl⟩ | ⟨hok, b, F, rfl, hm⟩)
    · have HBX3 : Hid (Below (P + 1) w1 w3) := ⟨bt2 HZ1.out HBX2.out HB3.out⟩
      have HE : Hid (layS l = none) := ⟨by rw [HLS.out, if_neg (fun h => by rw [hok] at h; cases h.2)]⟩
      have HNZ : Hid ((182 : Int) ≠ 0) := ⟨by decide⟩
      have KP := HKP.out.bel HBX3.out (Nat.lt_succ_self P)
      go_upto_region 6 with (fail)
      have HFB2 : Hid (Below w.heap.size w (w3.setRow P #[.slice none 0 0, .slice none 0 0, .slice none 0 0, .int .i64 0, .int .i64 0, .int .i64 0, .int .i64 0, .int .i64 0])) := ⟨by rw [hP]; exact bel_setR (HB1.out.trans (HBX3.out.mono (Nat.le_succ P))) P (Nat.le_refl _) _⟩
      have KE := KP.setR #[.slice none 0 0, .slice none 0 0, .slice none 0 0, .int .i64 0, .int .i64 0, .int .i64 0, .int .i64 0, .int .i64 0]
      iterate 1 go_step
      refine wpList_val (v := .agg #[.slice none 0 0, .slice none 0 0, .slice none 0 0, .int .i64 0, .int .i64 0, .int .i64 0, .int .i64 0, .int .i64 0]) (by kernel_rfl) (by kernel_rfl) ?_
      try simp only [Act.put, List.getElem_toArray, List.getElem_cons_succ, List.getElem_cons_zero, List.setIfInBounds_toArray, List.set_cons_zero, List.set_cons_succ]
      refine wpList_val (v := .int .i64 182) (by kernel_rfl) (by kernel_rfl) ?_
      try simp only [Act.put, List.getElem_toArray, List.getElem_cons_succ, List.getElem_cons_zero, List.setIfInBounds_toArray, List.set_cons_zero, List.set_cons_succ]
      refine wpList_part (g := P) (off := 0) (val := .agg #[.slice none 0 0, .slice none 0 0, .slice none 0 0, .int .i64 0, .int .i64 0, .int .i64 0, .int .i64 0, .int .i64 0]) (new := #[.slice none 0 0, .slice none 0 0, .slice none 0 0, .int .i64 0, .int .i64 0, .int .i64 0, .int .i64 0, .int .i64 0]) rfl rfl (by kernel_rfl) (by kernel_rfl) KP (by kernel_rfl) (Nat.le_of_ble_eq_true (by kernel_rfl)) (oneAll (by kernel_rfl)) (by kernel_rfl) ?_
      try simp only [Act.put, List.getElem_toArray, List.getElem_cons_succ, List.getElem_cons_zero, List.setIfInBounds_toArray, List.set_cons_zero, List.set_cons_succ]
      go_wp2_with fail
      exact bodyPost_ret (v := .tuple #[.agg #[.slice none 0 0, .slice none 0 0, .slice none 0 0, .int .i64 0, .int .i64 0, .int .i64 0, .int .i64 0, .int .i64 0], .int .i64 182]) (res_map (q := 2) (u := 3) (by kernel_rfl) _ _ P #[.slice none 0 0, .slice none 0 0, .slice none 0 0, .int .i64 0, .int .i64 0, .int .i64 0, .int .i64 0, .int .i64 0] _ rfl (by kernel_rfl) KE (by kernel_rfl)) rfl ⟨HFB2.out, .inl ⟨HE.out, 182, HNZ.out, rfl⟩⟩
    · have HBX3 : Hid (Below (P + 1) w1 w3) := ⟨bt2 HZ1.out HBX2.out HB3.out⟩
      have HMG : Hid _ := ⟨hm⟩
      have HL2 : Hid (layS l = layL (socc l) (ord (socc l)) st0) := ⟨by rw [HLS.out, if_pos ⟨hc, hok⟩]⟩
      have HB34 : Hid _ := ⟨HB3.out⟩
      clear HB3 HLS hok
      go_upto_region 8 with (go_at_call 19; refine (HNW.out b w3 HBX3.out).mono ?_; rintro e w4 ⟨p, va, vn, vc, bs, rfl, hwp, hkk, hat, hb4⟩; have HB4 : Hid _ := ⟨hb4⟩; have HNK : Hid (w3.heap.size ≤ p ∧ _ ∧ _) := ⟨hwp, hkk, hat⟩; clear hb4 hwp hkk hat)
      have HVN : Hid (vn = l.length) := ⟨by
        obtain ⟨_, _, hv, _⟩ := HNK.out.2.2.row.any encV_len
        injection hv with _ e2 _
        rw [e2]; simp [rowV]⟩
      have HBX4 : Hid (Below (P + 1) w1 w4) := ⟨bt2 HZ1.out HBX3.out HB4.out⟩
      have hup := hso.up
      have HPW : Hid (PW w2 w4 w2.heap.size (⟨p, b, ao, l.length, c, va, vn, vc, none, 0, 0, bs, l.map (·.secs.length), F⟩ : Wk) (socc l) 4096 (fun _ _ => -1) []) := ⟨{ kk := HNK.out.2.1, pB := Nat.le_trans HB34.out.size HNK.out.1, a := ⟨ownR_base2 HNK.out.2.2.row HB34.out.size, fun i hi => ⟨Nat.le_trans HB34.out.size (HNK.out.2.2.bk i hi).1, (HNK.out.2.2.bk i hi).2⟩, HNK.out.2.2.inj⟩, o := OwnR.nil _ _, m := HMG.out.bel HB4.out, b := HB34.out.trans (HB4.out.mono HB34.out.size) }⟩
      have HWI : Hid (WIn w2 (⟨p, b, ao, l.length, c, va, vn, vc, none, 0, 0, bs, l.map (·.secs.length), F⟩ : Wk) l (socc l)) := ⟨⟨HFL.out w2 HBX2.out, rfl, HFB.out.n, rfl, rfl, hso, uB_of HFB.out, by rw [socc_len]; exact HFB.out.sum.2⟩⟩
      have HBG : Hid _ := ⟨byGroups_any (uB_of HFB.out) hup hk64 HPW.out.m (by rw [socc_len]; exact HFB.out.sum.2)⟩
      generalize hkk : (⟨p, b, ao, l.length, c, va, vn, vc, none, 0, 0, bs, l.map (·.secs.length), F⟩ : Wk) = k at *
      have hkp : k.p = p := by rw [← hkk]
      have hkb : k.b = b := by rw [← hkk]
      have hkn : k.vn = l.length := by rw [← hkk]; exact HVN.out
      have hks : k.ns = l.map (·.secs.length) := by rw [← hkk]
      have HKN : Hid (k.vn = l.length ∧ k.ns = l.map (·.secs.length)) := ⟨hkn, hks⟩
      subst hkp hkb
      clear hkk hkn hks HNK HB4 HB34
      have HLY : Hid (∀ (W : World) (base : Nat) (vs : List Value), PW w2 W w2.heap.size k (socc l) 4096 (fun _ _ => -1) [] → vs.length = 9 → (∀ g, g < 9 → OwnS W base (vs.getD g (.slice none 0 0)) ((gn (socc l) g).map (·.s.nm))) → Calls Try.prog 20 #[.pointer (some ⟨k.p, 0, none⟩), .agg vs.toArray] W fun e w' => LEnd w2 w2.heap.size k (socc l) e w') := ⟨fun W base vs h h1 h2 => @lay_any w2 W w2.heap.size base k l (socc l) rfl HWI.out h vs h1 h2⟩
      have HLI : Hid (∀ st, layS l = some st → LI (socc l) (ord (socc l)) st ∧ SOk (socc l) ∧ st.en ≤ 16777216) := ⟨fun st h => layS_li h HD.out⟩
      have HCC : Hid _ := ⟨hc⟩
      clear hc hso hk64 hup
      go_upto_region 9 with (first
        | (go_at_call 21; refine HBG.out.mono ?_; rintro e w5 ⟨vs, rfl, hvl, hrows, hb5⟩; have HB5 : Hid _ := ⟨hb5⟩; have HRW : Hid (vs.length = 9 ∧ _) := ⟨hvl, hrows⟩; clear hvl hrows hb5)
        | (go_at_call 20; refine (HLY.out _ _ _ (HPW.out.bel rfl HB5.out) HRW.out.1 HRW.out.2).mono ?_; rintro e w6 (⟨hno, rfl, hb6⟩ | ⟨st, hst, rfl, oa, on, oc, hpw6⟩)))
      · have HBX6 : Hid (Below (P + 1) w1 w6) := ⟨HBX2.out.trans (hb6.mono (by have := HBX2.out.size; have := HZ1.out; omega))⟩
        have HE : Hid (layS l = none) := ⟨by rw [HL2.out]; exact hno⟩
        have HNZ : Hid ((6 : Int) ≠ 0) := ⟨by decide⟩
        have KP := HKP.out.bel HBX6.out (Nat.lt_succ_self P)
        clear hno hb6
        go_upto_region 10 with (fail)
        have HFB2 : Hid (Below w.heap.size w (w6.setRow P #[.slice none 0 0, .slice none 0 0, .slice none 0 0, .int .i64 0, .int .i64 0, .int .i64 0, .int .i64 0, .int .i64 0])) := ⟨by rw [hP]; exact bel_setR (HB1.out.trans (HBX6.out.mono (Nat.le_succ P))) P (Nat.le_refl _) _⟩
        have KE := KP.setR #[.slice none 0 0, .slice none 0 0, .slice none 0 0, .int .i64 0, .int .i64 0, .int .i64 0, .int .i64 0, .int .i64 0]
        iterate 1 go_step
        refine wpList_val (v := .agg #[.slice none 0 0, .slice none 0 0, .slice none 0 0, .int .i64 0, .int .i64 0, .int .i64 0, .int .i64 0, .int .i64 0]) (by kernel_rfl) (by kernel_rfl) ?_
        try simp only [Act.put, List.getElem_toArray, List.getElem_cons_succ, List.getElem_cons_zero, List.setIfInBounds_toArray, List.set_cons_zero, List.set_cons_succ]
        refine wpList_val (v := .int .i64 6) (by kernel_rfl) (by kernel_rfl) ?_
        try simp only [Act.put, List.getElem_toArray, List.getElem_cons_succ, List.getElem_cons_zero, List.setIfInBounds_toArray, List.set_cons_zero, List.set_cons_succ]
        refine wpList_part (g := P) (off := 0) (val := .agg #[.slice none 0 0, .slice none 0 0, .slice none 0 0, .int .i64 0, .int .i64 0, .int .i64 0, .int .i64 0, .int .i64 0]) (new := #[.slice none 0 0, .slice none 0 0, .slice none 0 0, .int .i64 0, .int .i64 0, .int .i64 0, .int .i64 0, .int .i64 0]) rfl rfl (by kernel_rfl) (by kernel_rfl) KP (by kernel_rfl) (Nat.le_of_ble_eq_true (by kernel_rfl)) (oneAll (by kernel_rfl)) (by kernel_rfl) ?_
        try simp only [Act.put, List.getElem_toArray, List.getElem_cons_succ, List.getElem_cons_zero, List.setIfInBounds_toArray, List.set_cons_zero, List.set_cons_succ]
        go_wp2_with fail
        exact bodyPost_ret (v := .tuple #[.agg #[.slice none 0 0, .slice none 0 0, .slice none 0 0, .int .i64 0, .int .i64 0, .int .i64 0, .int .i64 0, .int .i64 0], .int .i64 6]) (res_map (q := 2) (u := 3) (by kernel_rfl) _ _ P #[.slice none 0 0, .slice none 0 0, .slice none 0 0, .int .i64 0, .int .i64 0, .int .i64 0, .int .i64 0, .int .i64 0] _ rfl (by kernel_rfl) KE (by kernel_rfl)) rfl ⟨HFB2.out, .inl ⟨HE.out, 6, HNZ.out, rfl⟩⟩
      · have HS : Hid (layS l = some st) := ⟨by rw [HL2.out]; exact hst⟩
        obtain ⟨hli, hso2, hen⟩ := HLI.out st HS.out
        obtain ⟨k2, hk2⟩ : ∃ k2 : Wk, k2 = { k with oa := oa, on' := on, oc := oc } := ⟨_, rfl⟩
        rw [← hk2] at hpw6
        have hkp2 : k2.p = k.p := by rw [hk2]
        have HK2 : Hid (k2.vn = l.length ∧ k2.ns = l.map (·.secs.length)) := ⟨by rw [hk2]; exact HKN.out.1, by rw [hk2]; exact HKN.out.2⟩
        have HP6 : Hid _ := ⟨hpw6⟩
        have hol : st.outs.length ≤ 2097152 := by
          have h1 := congrArg List.length hli.nms
          simp only [List.length_map] at h1
          have h2 := ord_len (socc l)
          have h3 : (socc l).length ≤ 2097152 := by rw [socc_len]; exact HFB.out.sum.2
          omega
        have HT : Hid _ := ⟨tell_any hpw6 (hli.ouB hen) hol (hli.sgB hen)⟩
        rw [hkp2] at HT
        have HBX6 : Hid (Below (P + 1) w1 w6) := ⟨HBX2.out.trans (hpw6.b.mono (by have := HBX2.out.size; have := HZ1.out; omega))⟩
        clear hst hpw6 hk2 hli hen hol hso2
        go_upto_region 11 with (fail)
        go_wp2_with (
          go_at_call 22
          refine HT.out.mono ?_
          rintro e w7 ⟨sa, sc, rfl, hsg, hb7⟩
          have HBX7 : Hid (Below (P + 1) w1 w7) := ⟨bt2 HZ1.out HBX6.out hb7⟩
          have HP7 : Hid _ := ⟨HP6.out.bel rfl hb7⟩
          have KP := HKP.out.bel HBX7.out (Nat.lt_succ_self P)
          have hw2z : P + 1 ≤ w2.heap.size := by have := HBX2.out.size; have := HZ1.out; omega
          have hw6z : P + 1 ≤ w6.heap.size := by have := HBX6.out.size; have := HZ1.out; omega
          have HFIN : Hid (PlEnd l w (.returned (.tuple #[(.agg (mapC k2 st.en sa (segsL st.outs).length sc (tnL (segsL st.outs)))), .int .i64 0])) (w7.setRow P (mapC k2 st.en sa (segsL st.outs).length sc (tnL (segsL st.outs))))) := ⟨⟨by rw [hP]; exact bel_setR (HB1.out.trans (HBX7.out.mono (Nat.le_succ P))) P (Nat.le_refl _) _, .inr ⟨st, k2, sa, sc, HS.out, HCC.out, rfl, by
              obtain ⟨_, _, hv, _⟩ := HP7.out.o.any encO_len
              injection hv, HK2.out.1, by
              have ha := HP7.out.a
              rw [HK2.out.2] at ha
              exact ⟨own_setR (M := P) (ownR_base2 ha.row (by omega)) (fun q hq => by have := (own_cells2 ha.row q hq).1; omega) _, fun i hi => ⟨by have := (ha.bk i hi).1; omega, (ha.bk i hi).2.of (setRow_other _ _ _ _ (by have := (ha.bk i hi).1; omega))⟩, ha.inj⟩,
              own_setR (M := P) (ownR_base2 HP7.out.o (by omega)) (fun q hq => by have := (own_cells2 HP7.out.o q hq).1; omega) _,
              own_setR (M := P) (ownR_base2 hsg (by omega)) (fun q hq => by have := (own_cells2 hsg q hq).1; omega) _⟩⟩⟩
          have KE := KP.setR (mapC k2 st.en sa (segsL st.outs).length sc (tnL (segsL st.outs)))
          clear HP6 HP7 hsg hb7 HT hw2z hw6z
          rename_i hK
          refine hK _ _ ?_
          refine wpList_part (g := P) (off := 0) (val := (.agg (mapC k2 st.en sa (segsL st.outs).length sc (tnL (segsL st.outs))))) (new := (mapC k2 st.en sa (segsL st.outs).length sc (tnL (segsL st.outs)))) rfl rfl (by kernel_rfl) (by kernel_rfl) KP (by kernel_rfl) (Nat.le_of_ble_eq_true (by kernel_rfl)) (oneAll (by kernel_rfl)) (by kernel_rfl) ?_
          try simp only [Act.put, List.getElem_toArray, List.getElem_cons_succ, List.getElem_cons_zero, List.setIfInBounds_toArray, List.set_cons_zero, List.set_cons_succ]
          go_wp2_with fail
          exact bodyPost_ret (v := .tuple #[(.agg (mapC k2 st.en sa (segsL st.outs).length sc (tnL (segsL st.outs)))), .int .i64 0]) (res_map (q := 2) (u := 3) (by kernel_rfl) _ _ P (mapC k2 st.en sa (segsL st.outs).length sc (tnL (segsL st.outs))) _ rfl (by kernel_rfl) KE (by kernel_rfl)) rfl HFIN.out)
  · have HE : Hid (layS l = none) := ⟨by rw [HLS.out, if_neg (fun h => hc h.1)]⟩
    generalize checkL l = E at *
    have KP := HKP.out.bel HBX2.out (Nat.lt_succ_self P)
    have hcd : (E != 0) = true := by simp [hc]
    go_upto_region 3 with (fail)
    have HNZ : Hid (E ≠ 0) := ⟨hc⟩
    have HFB2 : Hid (Below w.heap.size w (w2.setRow P #[.slice none 0 0, .slice none 0 0, .slice none 0 0, .int .i64 0, .int .i64 0, .int .i64 0, .int .i64 0, .int .i64 0])) := ⟨by rw [hP]; exact bel_setR (HB1.out.trans (HBX2.out.mono (Nat.le_succ P))) P (Nat.le_refl _) _⟩
    have KE := KP.setR #[.slice none 0 0, .slice none 0 0, .slice none 0 0, .int .i64 0, .int .i64 0, .int .i64 0, .int .i64 0, .int .i64 0]
    iterate 1 go_step
    refine wpList_val (v := .agg #[.slice none 0 0, .slice none 0 0, .slice none 0 0, .int .i64 0, .int .i64 0, .int .i64 0, .int .i64 0, .int .i64 0]) (by kernel_rfl) (by kernel_rfl) ?_
    try simp only [Act.put, List.getElem_toArray, List.getElem_cons_succ, List.getElem_cons_zero, List.setIfInBounds_toArray, List.set_cons_zero, List.set_cons_succ]
    refine wpList_val (v := .int .i64 E) (by kernel_rfl) (by kernel_rfl) ?_
    try simp only [Act.put, List.getElem_toArray, List.getElem_cons_succ, List.getElem_cons_zero, List.setIfInBounds_toArray, List.set_cons_zero, List.set_cons_succ]
    refine wpList_part (g := P) (off := 0) (val := .agg #[.slice none 0 0, .slice none 0 0, .slice none 0 0, .int .i64 0, .int .i64 0, .int .i64 0, .int .i64 0, .int .i64 0]) (new := #[.slice none 0 0, .slice none 0 0, .slice none 0 0, .int .i64 0, .int .i64 0, .int .i64 0, .int .i64 0, .int .i64 0]) rfl rfl (by kernel_rfl) (by kernel_rfl) KP (by kernel_rfl) (Nat.le_of_ble_eq_true (by kernel_rfl)) (oneAll (by kernel_rfl)) (by kernel_rfl) ?_
    try simp only [Act.put, List.getElem_toArray, List.getElem_cons_succ, List.getElem_cons_zero, List.setIfInBounds_toArray, List.set_cons_zero, List.set_cons_succ]
    go_wp2_with fail
    exact bodyPost_ret (v := .tuple #[.agg #[.slice none 0 0, .slice none 0 0, .slice none 0 0, .int .i64 0, .int .i64 0, .int .i64 0, .int .i64 0, .int .i64 0], .int .i64 E]) (res_map (q := 2) (u := 3) (by kernel_rfl) _ _ P #[.slice none 0 0, .slice none 0 0, .slice none 0 0, .int .i64 0, .int .i64 0, .int .i64 0, .int .i64 0, .int .i64 0] _ rfl (by kernel_rfl) KE (by kernel_rfl)) rfl ⟨HFB2.out, .inl ⟨HE.out, E, HNZ.out, rfl⟩⟩
end Go.Proofs.Ytojiomkinhnodaa
