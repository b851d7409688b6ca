/- What must come, plainly; what a copy keeps. Where something holds: sections of the image. Named. code, num; knows. knows. -/
import Derived.Test.YtojiomkinhnodaaYOwn
namespace Go.Proofs.Ytojiomkinhnodaa
open Go.ChangeShapes Go.WideShapes Go.ChangeAt Go.RowKit Go.Maps
set_option linter.unusedVariables false
set_option linter.unusedSimpArgs false

abbrev txt : ByteArray := ⟨#[46, 116, 101, 120, 116]⟩
abbrev kS (n : Nat) (da : Option Addr) : Sec := ⟨txt, 1, 6, 16, da, n, n, n, none, 0, 0⟩
abbrev kF (n : Nat) (da sa : Option Addr) : Fl := ⟨sa, 1, [kS n da], none, 0, []⟩
def kL (d1 s1 d2 s2 : Option Addr) : List Fl := [kF 3 d1 s1, kF 5 d2 s2]
theorem kL_out (d1 s1 d2 s2 : Option Addr) : (layS (kL d1 s1 d2 s2)).map (fun st => (st.outs.map (fun o => (o.nm, o.ty, o.fl)), st.outs.map (fun o => (o.al, o.ad, o.sz)), st.en, st.at' 0 0, st.at' 1 0, (segsL st.outs).length)) = some ([(txt, 1, 6)], [(16, 4096, 21)], 4117, 4096, 4112, 1) := by kernel_rfl

/-- What a copy keeps, file by file. -/
theorem kf_mem {l L : List Fl} (h : L.map Fl.kf = l.map Fl.kf) {g : Fl} (hg : g ∈ L) : ∃ f ∈ l, f.kf = g.kf := by
  have : g.kf ∈ l.map Fl.kf := by rw [← h]; exact List.mem_map.2 ⟨g, hg, rfl⟩
  obtain ⟨f, hf, e⟩ := List.mem_map.1 this
  exact ⟨f, hf, e⟩
theorem kf_sec {f g : Fl} (h : f.kf = g.kf) {s : Sec} (hs : s ∈ g.secs) : ∃ t ∈ f.secs, t.key = s.key := by
  have h1 : f.secs.map Sec.key = g.secs.map Sec.key := congrArg Prod.fst h
  have : s.key ∈ f.secs.map Sec.key := by rw [h1]; exact List.mem_map.2 ⟨s, hs, rfl⟩
  obtain ⟨t, ht, e⟩ := List.mem_map.1 this
  exact ⟨t, ht, e⟩
theorem kf_len {f g : Fl} (h : f.kf = g.kf) : f.secs.length = g.secs.length ∧ f.syms = g.syms := by
  have h1 := congrArg List.length (congrArg Prod.fst h)
  exact ⟨by simpa [Fl.kf] using h1, congrArg Prod.snd h⟩
theorem key_fields {s t : Sec} (h : s.key = t.key) : s.nm = t.nm ∧ s.ty = t.ty ∧ s.fl = t.fl ∧ s.al = t.al ∧ s.dn = t.dn ∧ s.sz = t.sz := by
  unfold Sec.key at h
  injection h with h1 h2 h3 h4 _ h6 _ h8
  exact ⟨h1, h2, h3, h4, h6, h8⟩
theorem kf_dnB {l L : List Fl} (h : L.map Fl.kf = l.map Fl.kf) (hd : DnB l) : DnB L := fun g hg s hs => by
  obtain ⟨f, hf, e⟩ := kf_mem h hg
  obtain ⟨t, ht, e2⟩ := kf_sec e hs
  have := hd f hf t ht
  rw [← (key_fields e2).2.2.2.2.1]; exact this
theorem kf_flB {f g : Fl} (h : f.kf = g.kf) (hb : FlB f) : FlB g := by
  obtain ⟨h1, h2⟩ := kf_len h
  refine ⟨by rw [← h1]; exact hb.ns, by rw [← h2]; exact hb.ny, fun s hs => ?_, by rw [← h2]; exact hb.zy⟩
  obtain ⟨t, ht, e⟩ := kf_sec h hs
  rw [← (key_fields e).1]
  exact hb.zs t ht
theorem socc_kf : ∀ (l L : List Fl), L.map Fl.kf = l.map Fl.kf → (L.flatMap (·.secs)).length = (l.flatMap (·.secs)).length ∧ (L.flatMap (·.syms)).length = (l.flatMap (·.syms)).length
  | [], [], _ => ⟨rfl, rfl⟩
  | [], _ :: _, h => by simp at h
  | _ :: _, [], h => by simp at h
  | f :: l, g :: L, h => by
    simp only [List.map_cons, List.cons.injEq] at h
    obtain ⟨h1, h2⟩ := kf_len h.1
    obtain ⟨h3, h4⟩ := socc_kf l L h.2
    have h5 := congrArg List.length h2
    simp only [List.flatMap_cons, List.length_append]
    omega
theorem occ_ln (l : List Fl) : (occ l).length = (l.flatMap (·.syms)).length := by
  refine snoc_ind (P := fun l => (occ l).length = (l.flatMap (·.syms)).length) rfl (fun l f ih => ?_) l
  rw [occ_snoc, List.length_append, ih]
  simp [ocs]
theorem kf_flsB {l L : List Fl} (h : L.map Fl.kf = l.map Fl.kf) (hb : FlsB l) : FlsB L := by
  have hl := congrArg List.length h
  simp only [List.length_map] at hl
  obtain ⟨h1, h2⟩ := socc_kf l L h
  refine ⟨by rw [hl]; exact hb.n, fun g hg => ?_, ?_, ?_⟩
  · obtain ⟨f, hf, e⟩ := kf_mem h hg
    exact kf_flB e (hb.each f hf)
  · have := hb.sum.1
    rw [occ_ln] at this ⊢
    omega
  · have := hb.sum.2
    omega

def idxP {α : Type} (p : α → Bool) (l : List α) : Int := match l.findIdx? p with | some i => (i : Int) | none => -1
theorem idxP_none {α : Type} {p : α → Bool} {l : List α} (h : l.all (fun x => !p x) = true) : idxP p l = -1 := by
  unfold idxP
  rw [List.findIdx?_eq_none_iff.2 (fun x hx => by have := List.all_eq_true.1 h x hx; simpa using this)]
theorem idxP_at {α : Type} {p : α → Bool} {l : List α} (k : Nat) (hk : k < l.length) (h : (l.take k).all (fun x => !p x) = true) (hp : p l[k] = true) : idxP p l = (k : Int) := by
  unfold idxP
  have : l.findIdx? p = some k := by
    rw [List.findIdx?_eq_some_iff_getElem]
    refine ⟨hk, hp, fun j hj => ?_⟩
    have := List.all_eq_true.1 h ((l.take k)[j]'(by simp; omega)) (List.getElem_mem _)
    simpa using this
  rw [this]
theorem idxP_pos {α : Type} (p : α → Bool) (l : List α) : decide (0 ≤ idxP p l) = l.any p := by
  unfold idxP
  cases h : l.findIdx? p with
  | none =>
    rw [List.findIdx?_eq_none_iff] at h
    have : l.any p = false := by rw [List.any_eq_false]; intro x hx; rw [h x hx]; simp
    rw [this]; rfl
  | some i =>
    obtain ⟨hi, hp, _⟩ := List.findIdx?_eq_some_iff_getElem.1 h
    have : l.any p = true := List.any_eq_true.2 ⟨_, List.getElem_mem hi, hp⟩
    rw [this]
    simp
theorem idx_find {α : Type} (p : α → Bool) (l : List α) : (l.find? p = none ∧ idxP p l = -1) ∨ ∃ (k : Nat) (hk : k < l.length), l.find? p = some l[k] ∧ idxP p l = (k : Int) := by
  unfold idxP
  cases h : l.findIdx? p with
  | none =>
    rw [List.findIdx?_eq_none_iff] at h
    exact .inl ⟨List.find?_eq_none.2 (fun x hx => by rw [h x hx]; simp), rfl⟩
  | some i =>
    obtain ⟨hi, hp, hlt⟩ := List.findIdx?_eq_some_iff_getElem.1 h
    refine .inr ⟨i, hi, ?_, rfl⟩
    rw [List.find?_eq_some_iff_getElem]
    exact ⟨hp, i, hi, rfl, fun j hj => by have := hlt j hj; simpa using this⟩

set_option maxHeartbeats 2000000 in
set_option maxRecDepth 10000 in
theorem ixO_any (J : Nat) (p : Ou → Bool) (cb : Array Value) (ao : Option Addr) (c : Nat) (l : List Ou) (w : World) (hl : l.length ≤ 9223372036854775806) (hr : Outs w ao l)
    (hent : ∀ args w, (callFunc J args).run Try.prog w = .ok (.enter J args) w)
    (hop : ∀ s W, Below w.heap.size w W → Calls Try.prog J (#[Ou.val s] ++ cb) W fun e w' => e = .returned (.bool (p s)) ∧ Below W.heap.size W w') :
    Calls Try.prog 47 #[.slice ao l.length c, .func (.func J) #[] cb] w fun e w' => e = .returned (.int .i64 (idxP p l)) ∧ Below w.heap.size w w' := by
  have HO : Hid (∀ s W, Below w.heap.size w W → Calls Try.prog J (#[Ou.val s] ++ cb) W fun e w' => e = .returned (.bool (p s)) ∧ Below W.heap.size W w') := ⟨hop⟩
  have HR : Hid (Outs w ao l) := ⟨hr⟩
  have HN : Hid (l.all (fun x => !p x) = true → idxP p l = -1) := ⟨idxP_none⟩
  have HA : Hid (∀ k (hk : k < l.length), (l.take k).all (fun x => !p x) = true → p l[k] = true → idxP p l = (k : Int)) := ⟨fun k hk => idxP_at k hk⟩
  have HF : Hid (Below w.heap.size w w) := ⟨Below.refl _ _⟩
  generalize idxP p l = X at *
  clear hop hr
  go_enter Try.func47, Try.ntmps47
  go_wp2
  go_loopw [8] (fun i wr => ∃ k : Nat, k ≤ l.length ∧ i = .int .i64 k ∧ Hid ((l.take k).all (fun x => !p x) = true ∧ Below w.heap.size w wr)) (fun i _ => l.length - (intOf i).toNat)
  case atStart => exact ⟨0, by omega, rfl, ⟨by simp, HF.out⟩⟩
  case round =>
    obtain ⟨k, hk, rfl, HW⟩ := hrel
    by_cases hlt : k < l.length
    · obtain ⟨b, off, rfl, hcell⟩ : ∃ b off, ao = some ⟨b, off, none⟩ ∧ ∀ i, i < l.length → OutAt wr b (off + i * 6) (l.getD i Ou.zero) := by
        rcases HR.out.below HW.out.2 (Nat.le_refl _) with h | h
        · subst h; simp at hlt
        · exact h
      obtain ⟨c0, c1, c2, c3, c4, c5⟩ := hcell k hlt
      have hget : l.getD k Ou.zero = l[k] := by simp [hlt]
      rw [hget] at c0 c1 c2 c3 c4 c5
      have HX := HA.out k hlt HW.out.1
      have HT : Hid (p l[k] = false → (l.take (k + 1)).all (fun x => !p x) = true) := ⟨fun h => by rw [all_take_succ _ _ _ hlt, HW.out.1, h]; rfl⟩
      have HC : Hid _ := ⟨HO.out l[k] wr HW.out.2⟩
      have HXX : Hid _ := ⟨HX⟩
      obtain ⟨s, hs⟩ : ∃ s, s = l[k] := ⟨_, rfl⟩
      rw [← hs] at c0 c1 c2 c3 c4 c5 HT HC HXX
      clear hs hcell hget HX
      generalize p s = q at *
      obtain ⟨nm, o1, o2, o3, o4, o5⟩ := s
      dsimp only [Ou.val] at *
      cases q
      · have hT := HT.out rfl
        go_wp2_with (go_at_fn J; (with_reducible refine HC.out.mono ?_); rintro e w3 ⟨rfl, hb3⟩)
        go_roundw
        case rel => exact ⟨k + 1, hlt, by go_num, ⟨hT, HW.out.2.trans (hb3.mono HW.out.2.size)⟩⟩
        case measure => simp [intOf]; omega
      · have hX := HXX.out rfl
        go_wp2_with (go_at_fn J; (with_reducible refine HC.out.mono ?_); rintro e w3 ⟨rfl, hb3⟩)
        go_ret
        exact ⟨by rw [hX]; rfl, HW.out.2.trans (hb3.mono HW.out.2.size)⟩
    · obtain rfl : k = l.length := by omega
      have hN := HN.out (by have := HW.out.1; rwa [List.take_of_length_le (Nat.le_refl _)] at this)
      go_wp2
      go_ret
      exact ⟨by rw [hN]; rfl, HW.out.2⟩


theorem res_out {fn : Func} {q u : Tmp} (h : fn.results = #[.cell q 47, .tmp u]) (tmps : Array Value) (w : World) (g : Nat) (o : Ou) (v : Value) (hp : tmps.getD q undef = .pointer (some ⟨g, 0, none⟩)) (hg : Bk w g 47 (encO o).toArray) (hu : tmps.getD u undef = v) :
    (results fn tmps).run Try.prog w = .ok (.tuple #[o.val, v]) w := by
  rw [results_cell_tmp h, hp, hu]
  have hl := run_loadVar_row (P := Try.prog) w g 47 47 (encO o).toArray (0, 0) _ hg.hp Try.underlying47 rfl (by rw [sizeO]; rfl)
  simp [asAddr, hl, Result.andThen, encO]
/-- The first that holds. -/
def fstO (p : Ou → Bool) (l : List Ou) : Option Ou := l.find? p
set_option maxHeartbeats 8000000 in
set_option maxRecDepth 20000 in
theorem first_any (J : Nat) (p : Ou → Bool) (cb : Array Value) (ao : Option Addr) (c : Nat) (l : List Ou) (w : World) (hl : l.length ≤ 2097152) (hr : Outs w ao l)
    (hent : ∀ args w, (callFunc J args).run Try.prog w = .ok (.enter J args) w)
    (hop : ∀ s W, Below w.heap.size w W → Calls Try.prog J (#[Ou.val s] ++ cb) W fun e w' => e = .returned (.bool (p s)) ∧ Below W.heap.size W w') :
    Calls Try.prog 31 #[.slice ao l.length c, .func (.func J) #[] cb] w fun e w' => e = .returned (.tuple #[((fstO p l).getD Ou.zero).val, .bool (fstO p l).isSome]) ∧ Below w.heap.size w w' := by
  obtain ⟨B, hB⟩ : ∃ B, w.heap.size = B := ⟨_, rfl⟩
  obtain ⟨w1, hw1⟩ : ∃ w1, w.alloc (.cells #[.string ⟨#[]⟩, .int .i64 0, .int .i64 0, .int .i64 0, .int .i64 0, .int .i64 0] 47) = w1 := ⟨_, rfl⟩
  have HB1 : Hid (Below B w w1) := ⟨by rw [← hw1, ← hB]; exact (Below.refl _ _).alloc (Nat.le_refl _) _⟩
  have HK1 : Hid (Bk w1 B 47 (encO Ou.zero).toArray) := ⟨by rw [← hw1, ← hB]; exact Bk.new _ _ _⟩
  have HIX : Hid _ := ⟨ixO_any J p cb ao c l w1 (by omega) (hr.below HB1.out (Nat.le_of_eq hB)) hent (fun s W h => hop s W (by rw [hB]; exact HB1.out.trans (h.mono (by have := HB1.out.size; omega))))⟩
  have HU : Hid _ := ⟨idx_find p l⟩
  have HR : Hid _ := ⟨hr⟩
  clear hr hop
  generalize idxP p l = X at *
  go_enter Try.func31, Try.ntmps31
  go_upto_region 2 with (go_at_call 47; (with_reducible refine HIX.out.mono ?_); rintro e w2 ⟨rfl, hb2⟩; have HB2 : Hid _ := ⟨hb2⟩; clear hb2)
  clear hw1
  have HB3 : Hid (Below B w w2) := ⟨bt2 hB HB1.out HB2.out⟩
  have KP := HK1.out.bel HB2.out HK1.out.lt
  have HRX : Hid _ := ⟨HR.out.below HB3.out (Nat.le_of_eq hB)⟩
  clear HB2 HB1 HK1 HIX HR
  rcases HU.out with ⟨h1, h2⟩ | ⟨k, hk, h1, h2⟩
  · subst h2
    have HE : Hid (fstO p l = none) := ⟨h1⟩
    clear h1 HU
    have KE := KP.setR (encO Ou.zero).toArray
    have HFB : Hid (Below w.heap.size w (w2.setRow B (encO Ou.zero).toArray)) := ⟨by rw [hB]; exact bel_setR HB3.out B (Nat.le_refl _) _⟩
    go_upto_region 3 with (fail)
    iterate 1 go_step
    refine wpList_val (v := Ou.zero.val) (by kernel_rfl) (by kernel_rfl) ?_
    try simp only [Act.put, List.getElem_toArray, List.getElem_cons_succ, List.getElem_cons_zero, List.setIfInBounds_toArray, List.set_cons_zero, List.set_cons_succ]
    refine wpList_part (g := B) (off := 0) (val := Ou.zero.val) (new := (encO Ou.zero).toArray) rfl rfl (by kernel_rfl) (by kernel_rfl) KP (by kernel_rfl) (Nat.le_of_ble_eq_true (by kernel_rfl)) (oneAll (by kernel_rfl)) (by kernel_rfl) ?_
    try simp only [Act.put, List.getElem_toArray, List.getElem_cons_succ, List.getElem_cons_zero, List.setIfInBounds_toArray, List.set_cons_zero, List.set_cons_succ]
    go_wp2_with fail
    exact bodyPost_ret (v := .tuple #[Ou.zero.val, .bool false]) (res_out (q := 4) (u := 5) (by kernel_rfl) _ _ B Ou.zero _ (by kernel_rfl) KE (by kernel_rfl)) rfl ⟨by rw [HE.out]; rfl, HFB.out⟩
  · subst h2
    have HE : Hid (fstO p l = some l[k]) := ⟨h1⟩
    clear h1 HU
    obtain ⟨b, off, hao, hat⟩ : ∃ b off, ao = some ⟨b, off, none⟩ ∧ ∀ i, i < l.length → OutAt w2 b (off + i * 6) (l.getD i Ou.zero) := by
      rcases HRX.out with h | h
      · rw [h] at hk; simp at hk
      · exact h
    subst hao
    obtain ⟨c0, c1, c2, c3, c4, c5⟩ := hat k hk
    have hgd : l.getD k Ou.zero = l[k] := by simp [hk]
    rw [hgd] at c0 c1 c2 c3 c4 c5
    clear hat hgd
    generalize l[k] = x at *
    obtain ⟨nm, o1, o2, o3, o4, o5⟩ := x
    dsimp only at *
    have k0 := KP.cell 0 rfl
    have f0 := KP.fro 0
    have k1 := KP.cell 1 rfl
    have f1 := KP.fro 1
    have k2 := KP.cell 2 rfl
    have f2 := KP.fro 2
    have k3 := KP.cell 3 rfl
    have f3 := KP.fro 3
    have k4 := KP.cell 4 rfl
    have f4 := KP.fro 4
    have k5 := KP.cell 5 rfl
    have f5 := KP.fro 5
    have HKE : Hid _ := ⟨((((((KP.setC 0 (.string nm)).setC 1 (.int .i64 o1)).setC 2 (.int .i64 o2)).setC 3 (.int .i64 o3)).setC 4 (.int .i64 o4)).setC 5 (.int .i64 o5))⟩
    have HFE : Hid _ := ⟨(bel_setC (bel_setC (bel_setC (bel_setC (bel_setC (bel_setC HB3.out ⟨B, 0, none⟩ (Nat.le_refl B) (.string nm)) ⟨B, 1, none⟩ (Nat.le_refl B) (.int .i64 o1)) ⟨B, 2, none⟩ (Nat.le_refl B) (.int .i64 o2)) ⟨B, 3, none⟩ (Nat.le_refl B) (.int .i64 o3)) ⟨B, 4, none⟩ (Nat.le_refl B) (.int .i64 o4)) ⟨B, 5, none⟩ (Nat.le_refl B) (.int .i64 o5))⟩
    have HKP : Hid _ := ⟨KP⟩
    clear KP
    go_wp2
    exact bodyPost_ret (v := .tuple #[(⟨nm, o1, o2, o3, o4, o5⟩ : Ou).val, .bool true]) (res_out (q := 4) (u := 5) (by kernel_rfl) _ _ B ⟨nm, o1, o2, o3, o4, o5⟩ _ (by kernel_rfl) ⟨HKE.out.hp⟩ (by kernel_rfl)) rfl ⟨by rw [HE.out]; rfl, by rw [hB]; exact HFE.out⟩

theorem nm_tl (a b : ByteArray) : (a.toList == b.toList) = nmB a b := by
  unfold nmB
  rw [ByteArray.toList_eq, ByteArray.toList_eq]
  by_cases h : a = b
  · subst h; simp
  · rw [decide_eq_false h, beq_eq_false_iff_ne]
    exact fun e => h (ByteArray.ext (Array.toList_inj.1 e))


set_option maxHeartbeats 2000000 in
theorem clN_any (s : Ou) (n : ByteArray) (nb : Nat) (W : World) (h : W.cell? ⟨nb, 0, none⟩ = some (.string n)) : Calls Try.prog 32 #[s.val, .pointer (some ⟨nb, 0, none⟩)] W fun e w' => e = .returned (.bool (nmB s.nm n)) ∧ Below W.heap.size W w' := by
  obtain ⟨nm, o1, o2, o3, o4, o5⟩ := s
  have hl := World.block_lt_of_cell? W _ h
  have hl2 : nb ≠ W.heap.size := by have : nb < W.heap.size := hl; omega
  obtain ⟨q, hq⟩ : ∃ q, nmB nm n = q := ⟨_, rfl⟩
  have hq2 : (nm.toList == n.toList) = q := by rw [nm_tl, hq]
  have HB : Hid _ := ⟨(Below.refl W.heap.size W).alloc (Nat.le_refl _) (.cells #[.string nm, .int .i64 o1, .int .i64 o2, .int .i64 o3, .int .i64 o4, .int .i64 o5] 47)⟩
  dsimp only [Ou.val]
  rw [hq]
  clear hq
  go_enter Try.func32, Try.ntmps32
  go_wp2
  go_ret
  exact ⟨rfl, HB.out⟩
theorem enN : ∀ args w, (callFunc 32 args).run Try.prog w = .ok (.enter 32 args) w := enters_of Try.func32 (by kernel_rfl) rfl
/-- The section of a name. -/
def nmdO (l : List Ou) (n : ByteArray) : Option Ou := fstO (fun o => nmB o.nm n) l
set_option maxHeartbeats 8000000 in
set_option maxRecDepth 20000 in
theorem named_any (l : List Ou) (n : ByteArray) (oa aa sa : Option Addr) (oc an ac sn sc : Nat) (i1 i2 i3 i4 i5 : Int) (w : World) (hl : l.length ≤ 2097152) (hr : Outs w oa l) :
    Calls Try.prog 14 #[.agg #[.slice oa l.length oc, .slice aa an ac, .slice sa sn sc, .int .i64 i1, .int .i64 i2, .int .i64 i3, .int .i64 i4, .int .i64 i5], .string n] w fun e w' => e = .returned (.tuple #[((nmdO l n).getD Ou.zero).val, .bool (nmdO l n).isSome]) ∧ Below w.heap.size w w' := by
  obtain ⟨B, hB⟩ : ∃ B, w.heap.size = B := ⟨_, rfl⟩
  obtain ⟨w3, hw3⟩ : ∃ w3, ((w.alloc (.cells #[.slice oa l.length oc, .slice aa an ac, .slice sa sn sc, .int .i64 i1, .int .i64 i2, .int .i64 i3, .int .i64 i4, .int .i64 i5] 28)).alloc (.cells #[.string n] 9)).alloc (.cells #[.string ⟨#[]⟩, .int .i64 0, .int .i64 0, .int .i64 0, .int .i64 0, .int .i64 0] 47) = w3 := ⟨_, rfl⟩
  have HB3 : Hid (Below B w w3) := ⟨by rw [← hw3, ← hB]; exact (((Below.refl _ _).alloc (Nat.le_refl _) _).alloc (by simp) _).alloc (by simp; omega) _⟩
  have K0 : Bk w3 B 28 #[.slice oa l.length oc, .slice aa an ac, .slice sa sn sc, .int .i64 i1, .int .i64 i2, .int .i64 i3, .int .i64 i4, .int .i64 i5] := by rw [← hw3, ← hB]; exact ((Bk.new _ _ _).alloc _).alloc _
  have K1 : Bk w3 (B + 1) 9 #[.string n] := by
    rw [← hw3, ← hB]
    have := (Bk.new (w.alloc (.cells #[.slice oa l.length oc, .slice aa an ac, .slice sa sn sc, .int .i64 i1, .int .i64 i2, .int .i64 i3, .int .i64 i4, .int .i64 i5] 28)) #[.string n] 9).alloc (.cells #[.string ⟨#[]⟩, .int .i64 0, .int .i64 0, .int .i64 0, .int .i64 0, .int .i64 0] 47)
    simpa using this
  have K2 : Bk w3 (B + 2) 47 (encO Ou.zero).toArray := by
    rw [← hw3, ← hB]
    have := Bk.new ((w.alloc (.cells #[.slice oa l.length oc, .slice aa an ac, .slice sa sn sc, .int .i64 i1, .int .i64 i2, .int .i64 i3, .int .i64 i4, .int .i64 i5] 28)).alloc (.cells #[.string n] 9)) #[.string ⟨#[]⟩, .int .i64 0, .int .i64 0, .int .i64 0, .int .i64 0, .int .i64 0] 47
    simp only [World.size_alloc] at this
    exact this
  have HRR : Hid _ := ⟨hr.below HB3.out (Nat.le_of_eq hB)⟩
  have HFS : Hid _ := ⟨first_any 32 (fun o => nmB o.nm n) #[.pointer (some ⟨B + 1, 0, none⟩)] oa oc l w3 hl HRR.out enN (fun s W h => clN_any s n (B + 1) W ((K1.bel h K1.lt).cell 0 rfl))⟩
  have m0 : w3.cell? ⟨B, 0, none⟩ = some (.slice oa l.length oc) := K0.cell 0 rfl
  have HK2 : Hid _ := ⟨K2⟩
  have HFO : Hid (fstO (fun o => nmB o.nm n) l = nmdO l n) := ⟨rfl⟩
  rw [HFO.out] at HFS
  generalize ((nmdO l n).getD Ou.zero) = x at *
  generalize (nmdO l n).isSome = y at *
  clear K0 K1 K2 hr
  go_enter Try.func14, Try.ntmps14
  go_upto_region 1 with (fail)
  clear hw3
  obtain ⟨nm, o1, o2, o3, o4, o5⟩ := x
  dsimp only [Ou.val] at *
  go_wp2_with (go_at_call 31; (with_reducible refine HFS.out.mono ?_); rintro e w4 ⟨rfl, hb4⟩; have HBB : Hid _ := ⟨hb4⟩; clear hb4; have HB4 : Hid (Below B w w4) := ⟨bt2 hB HB3.out HBB.out⟩; have KP := HK2.out.bel HBB.out HK2.out.lt; have k0 := KP.cell 0 rfl; have f0 := KP.fro 0; have k1 := KP.cell 1 rfl; have f1 := KP.fro 1; have k2 := KP.cell 2 rfl; have f2 := KP.fro 2; have k3 := KP.cell 3 rfl; have f3 := KP.fro 3; have k4 := KP.cell 4 rfl; have f4 := KP.fro 4; have k5 := KP.cell 5 rfl; have f5 := KP.fro 5; have HKE : Hid _ := ⟨((((((KP.setC 0 (.string nm)).setC 1 (.int .i64 o1)).setC 2 (.int .i64 o2)).setC 3 (.int .i64 o3)).setC 4 (.int .i64 o4)).setC 5 (.int .i64 o5))⟩; have HFE : Hid _ := ⟨(bel_setC (bel_setC (bel_setC (bel_setC (bel_setC (bel_setC HB4.out ⟨B + 2, 0, none⟩ (show B ≤ B + 2 by omega) (.string nm)) ⟨B + 2, 1, none⟩ (show B ≤ B + 2 by omega) (.int .i64 o1)) ⟨B + 2, 2, none⟩ (show B ≤ B + 2 by omega) (.int .i64 o2)) ⟨B + 2, 3, none⟩ (show B ≤ B + 2 by omega) (.int .i64 o3)) ⟨B + 2, 4, none⟩ (show B ≤ B + 2 by omega) (.int .i64 o4)) ⟨B + 2, 5, none⟩ (show B ≤ B + 2 by omega) (.int .i64 o5))⟩; have HKP : Hid _ := ⟨KP⟩; clear KP)
  exact bodyPost_ret (v := .tuple #[(⟨nm, o1, o2, o3, o4, o5⟩ : Ou).val, .bool y]) (res_out (q := 4) (u := 5) (by kernel_rfl) _ _ (B + 2) ⟨nm, o1, o2, o3, o4, o5⟩ _ (by kernel_rfl) ⟨HKE.out.hp⟩ (by kernel_rfl)) rfl ⟨rfl, by rw [hB]; exact HFE.out⟩

theorem num_any (n : Int) (w : World) : Calls Try.prog 12 #[.int .i64 n] w fun e w' => e = .returned (.int .i64 n) ∧ w' = w := by
  go_enter Try.func12, Try.ntmps12
  go_wp2
  go_ret
  first | exact ⟨rfl, rfl⟩ | trace_state
theorem mk3 (W : World) : (Instr.makeSlice 49 (.int .i64 3) (.int .i64 3)).run Try.prog W = .ok (.slice (some ⟨W.heap.size, 0, none⟩) 3 3) (W.alloc (.cells #[.int .u8 0, .int .u8 0, .int .u8 0] 5)) := by kernel_rfl
theorem mk5 (W : World) : (Instr.makeSlice 49 (.int .i64 5) (.int .i64 5)).run Try.prog W = .ok (.slice (some ⟨W.heap.size, 0, none⟩) 5 5) (W.alloc (.cells #[.int .u8 0, .int .u8 0, .int .u8 0, .int .u8 0, .int .u8 0] 5)) := by kernel_rfl
set_option maxHeartbeats 4000000 in
set_option maxRecDepth 20000 in
theorem code_any (n : Nat) (hn : n = 3 ∨ n = 5) (w : World) : Calls Try.prog 30 #[.int .i64 n] w fun e w' => ∃ g, e = .returned (kS n (some ⟨g, 0, none⟩)).val ∧ Below w.heap.size w w' := by
  obtain ⟨B, hB⟩ : ∃ B, w.heap.size = B := ⟨_, rfl⟩
  rcases hn with rfl | rfl
  · have hmk := mk3
    have K1 : Bk ((w.alloc (.cells #[.string ⟨#[]⟩, .int .i64 0, .int .i64 0, .int .i64 0, .slice none 0 0, .int .i64 0, .slice none 0 0] 52)).alloc (.cells #[.int .u8 0, .int .u8 0, .int .u8 0] 5)) B 52 #[.string ⟨#[]⟩, .int .i64 0, .int .i64 0, .int .i64 0, .slice none 0 0, .int .i64 0, .slice none 0 0] := by rw [← hB]; exact (Bk.new _ _ _).alloc _
    have HB2 : Hid (Below B w ((w.alloc (.cells #[.string ⟨#[]⟩, .int .i64 0, .int .i64 0, .int .i64 0, .slice none 0 0, .int .i64 0, .slice none 0 0] 52)).alloc (.cells #[.int .u8 0, .int .u8 0, .int .u8 0] 5))) := ⟨by rw [← hB]; exact ((Below.refl _ _).alloc (Nat.le_refl _) _).alloc (by simp) _⟩
    have hz1 : (w.alloc (.cells #[.string ⟨#[]⟩, .int .i64 0, .int .i64 0, .int .i64 0, .slice none 0 0, .int .i64 0, .slice none 0 0] 52)).heap.size = B + 1 := by simp [hB]
    go_enter Try.func30, Try.ntmps30
    go_upto_region 1 with (fail)
    iterate 1 go_step
    refine wpList_val (v := .int .i64 3) (by kernel_rfl) (by kernel_rfl) ?_
    try simp only [Act.put, List.getElem_toArray, List.getElem_cons_succ, List.getElem_cons_zero, List.setIfInBounds_toArray, List.set_cons_zero, List.set_cons_succ]
    iterate 3 go_step
    refine wpList_val (v := .int .i64 3) (by kernel_rfl) (by kernel_rfl) ?_
    try simp only [Act.put, List.getElem_toArray, List.getElem_cons_succ, List.getElem_cons_zero, List.setIfInBounds_toArray, List.set_cons_zero, List.set_cons_succ]
    refine wpList_val (v := (kS 3 (some ⟨B + 1, 0, none⟩)).val) (by kernel_rfl) (by kernel_rfl) ?_
    try simp only [Act.put, List.getElem_toArray, List.getElem_cons_succ, List.getElem_cons_zero, List.setIfInBounds_toArray, List.set_cons_zero, List.set_cons_succ]
    have KE := K1.setR (encS (kS 3 (some ⟨B + 1, 0, none⟩))).toArray
    have HFB : Hid (Below w.heap.size w (((w.alloc (.cells #[.string ⟨#[]⟩, .int .i64 0, .int .i64 0, .int .i64 0, .slice none 0 0, .int .i64 0, .slice none 0 0] 52)).alloc (.cells #[.int .u8 0, .int .u8 0, .int .u8 0] 5)).setRow B (encS (kS 3 (some ⟨B + 1, 0, none⟩))).toArray)) := ⟨by rw [hB]; exact bel_setR HB2.out B (Nat.le_refl _) _⟩
    refine wpList_part (g := B) (off := 0) (val := (kS 3 (some ⟨B + 1, 0, none⟩)).val) (new := (encS (kS 3 (some ⟨B + 1, 0, none⟩))).toArray) rfl rfl (by kernel_rfl) (by kernel_rfl) K1 (by kernel_rfl) (Nat.le_of_ble_eq_true (by kernel_rfl)) (oneAll (by kernel_rfl)) (by kernel_rfl) ?_
    try simp only [Act.put, List.getElem_toArray, List.getElem_cons_succ, List.getElem_cons_zero, List.setIfInBounds_toArray, List.set_cons_zero, List.set_cons_succ]
    refine wpList_nil ?_
    go_wp2_with fail
    exact bodyPost_ret (v := (kS 3 (some ⟨B + 1, 0, none⟩)).val) (results_cell_row (p := 2) (ty := 52) (by kernel_rfl) _ _ B 52 _ (0, 0) _ (by kernel_rfl) KE.hp Try.underlying52 rfl (by kernel_rfl)) rfl ⟨B + 1, rfl, HFB.out⟩
  · have hmk := mk5
    have K1 : Bk ((w.alloc (.cells #[.string ⟨#[]⟩, .int .i64 0, .int .i64 0, .int .i64 0, .slice none 0 0, .int .i64 0, .slice none 0 0] 52)).alloc (.cells #[.int .u8 0, .int .u8 0, .int .u8 0, .int .u8 0, .int .u8 0] 5)) B 52 #[.string ⟨#[]⟩, .int .i64 0, .int .i64 0, .int .i64 0, .slice none 0 0, .int .i64 0, .slice none 0 0] := by rw [← hB]; exact (Bk.new _ _ _).alloc _
    have HB2 : Hid (Below B w ((w.alloc (.cells #[.string ⟨#[]⟩, .int .i64 0, .int .i64 0, .int .i64 0, .slice none 0 0, .int .i64 0, .slice none 0 0] 52)).alloc (.cells #[.int .u8 0, .int .u8 0, .int .u8 0, .int .u8 0, .int .u8 0] 5))) := ⟨by rw [← hB]; exact ((Below.refl _ _).alloc (Nat.le_refl _) _).alloc (by simp) _⟩
    have hz1 : (w.alloc (.cells #[.string ⟨#[]⟩, .int .i64 0, .int .i64 0, .int .i64 0, .slice none 0 0, .int .i64 0, .slice none 0 0] 52)).heap.size = B + 1 := by simp [hB]
    go_enter Try.func30, Try.ntmps30
    go_upto_region 1 with (fail)
    iterate 1 go_step
    refine wpList_val (v := .int .i64 5) (by kernel_rfl) (by kernel_rfl) ?_
    try simp only [Act.put, List.getElem_toArray, List.getElem_cons_succ, List.getElem_cons_zero, List.setIfInBounds_toArray, List.set_cons_zero, List.set_cons_succ]
    iterate 3 go_step
    refine wpList_val (v := .int .i64 5) (by kernel_rfl) (by kernel_rfl) ?_
    try simp only [Act.put, List.getElem_toArray, List.getElem_cons_succ, List.getElem_cons_zero, List.setIfInBounds_toArray, List.set_cons_zero, List.set_cons_succ]
    refine wpList_val (v := (kS 5 (some ⟨B + 1, 0, none⟩)).val) (by kernel_rfl) (by kernel_rfl) ?_
    try simp only [Act.put, List.getElem_toArray, List.getElem_cons_succ, List.getElem_cons_zero, List.setIfInBounds_toArray, List.set_cons_zero, List.set_cons_succ]
    have KE := K1.setR (encS (kS 5 (some ⟨B + 1, 0, none⟩))).toArray
    have HFB : Hid (Below w.heap.size w (((w.alloc (.cells #[.string ⟨#[]⟩, .int .i64 0, .int .i64 0, .int .i64 0, .slice none 0 0, .int .i64 0, .slice none 0 0] 52)).alloc (.cells #[.int .u8 0, .int .u8 0, .int .u8 0, .int .u8 0, .int .u8 0] 5)).setRow B (encS (kS 5 (some ⟨B + 1, 0, none⟩))).toArray)) := ⟨by rw [hB]; exact bel_setR HB2.out B (Nat.le_refl _) _⟩
    refine wpList_part (g := B) (off := 0) (val := (kS 5 (some ⟨B + 1, 0, none⟩)).val) (new := (encS (kS 5 (some ⟨B + 1, 0, none⟩))).toArray) rfl rfl (by kernel_rfl) (by kernel_rfl) K1 (by kernel_rfl) (Nat.le_of_ble_eq_true (by kernel_rfl)) (oneAll (by kernel_rfl)) (by kernel_rfl) ?_
    try simp only [Act.put, List.getElem_toArray, List.getElem_cons_succ, List.getElem_cons_zero, List.setIfInBounds_toArray, List.set_cons_zero, List.set_cons_succ]
    refine wpList_nil ?_
    go_wp2_with fail
    exact bodyPost_ret (v := (kS 5 (some ⟨B + 1, 0, none⟩)).val) (results_cell_row (p := 2) (ty := 52) (by kernel_rfl) _ _ B 52 _ (0, 0) _ (by kernel_rfl) KE.hp Try.underlying52 rfl (by kernel_rfl)) rfl ⟨B + 1, rfl, HFB.out⟩

theorem kL_B (d1 s1 d2 s2 : Option Addr) : FlsB (kL d1 s1 d2 s2) := by
  refine ⟨by show 2 ≤ _; omega, fun f hf => ?_, ?_, ?_⟩
  · have : f = kF 3 d1 s1 ∨ f = kF 5 d2 s2 := by simpa [kL] using hf
    rcases this with rfl | rfl
    · exact ⟨by show 1 ≤ _; omega, by show 0 ≤ _; omega, fun s hs => by simp at hs; subst hs; show 5 ≤ _; omega, by intro s hs; cases hs⟩
    · exact ⟨by show 1 ≤ _; omega, by show 0 ≤ _; omega, fun s hs => by simp at hs; subst hs; show 5 ≤ _; omega, by intro s hs; cases hs⟩
  · rw [occ_ln]; show 0 ≤ _; omega
  · show 2 ≤ _; omega
theorem kL_D (d1 s1 d2 s2 : Option Addr) : DnB (kL d1 s1 d2 s2) := fun f hf s hs => by
  have : f = kF 3 d1 s1 ∨ f = kF 5 d2 s2 := by simpa [kL] using hf
  rcases this with rfl | rfl
  · simp at hs; subst hs; show 3 ≤ _; omega
  · simp at hs; subst hs; show 5 ≤ _; omega
theorem kS_secs {W : World} {Q n : Nat} {d : Option Addr} (h : Bk W Q 52 (encS (kS n d)).toArray) : Secs W (some ⟨Q, 0, none⟩) [kS n d] :=
  .inr ⟨Q, 0, rfl, fun i hi => by
    obtain rfl : i = 0 := by simpa using hi
    exact ⟨h.cell 0 rfl, h.cell 1 rfl, h.cell 2 rfl, h.cell 3 rfl, h.cell 4 rfl, h.cell 5 rfl, h.cell 6 rfl⟩⟩
theorem kL_fls {W : World} {X Q1 Q2 : Nat} {d1 d2 : Option Addr} (hX : Bk W X 41 #[.slice (some ⟨Q1, 0, none⟩) 1 1, .slice none 0 0, .slice (some ⟨Q2, 0, none⟩) 1 1, .slice none 0 0]) (h1 : Bk W Q1 52 (encS (kS 3 d1)).toArray) (h2 : Bk W Q2 52 (encS (kS 5 d2)).toArray) : Fls W (some ⟨X, 0, none⟩) (kL d1 (some ⟨Q1, 0, none⟩) d2 (some ⟨Q2, 0, none⟩)) :=
  .inr ⟨X, 0, rfl, fun i hi => by
    have : i = 0 ∨ i = 1 := by have h9 : i < 2 := hi; omega
    rcases this with rfl | rfl
    · exact ⟨hX.cell 0 rfl, hX.cell 1 rfl, ⟨kS_secs h1, .inl rfl⟩⟩
    · exact ⟨hX.cell 2 rfl, hX.cell 3 rfl, ⟨kS_secs h2, .inl rfl⟩⟩⟩
theorem kL_st {d1 s1 d2 s2 : Option Addr} {st : St} (h : layS (kL d1 s1 d2 s2) = some st) : st.outs = [⟨txt, 1, 6, 16, 4096, 21⟩] ∧ st.at' 1 0 = 4112 ∧ (segsL st.outs).length = 1 := by
  have e := kL_out d1 s1 d2 s2
  rw [h] at e
  simp only [Option.map_some, Option.some.injEq, Prod.mk.injEq] at e
  obtain ⟨e1, e2, _, _, e5, e6⟩ := e
  refine ⟨?_, e5, e6⟩
  cases ho : st.outs with
  | nil => rw [ho] at e1; cases e1
  | cons a r =>
    rw [ho] at e1 e2
    simp only [List.map_cons, List.cons.injEq, Prod.mk.injEq, List.map_eq_nil_iff] at e1 e2
    obtain ⟨⟨a1, a2, a3⟩, hr⟩ := e1
    obtain ⟨⟨a4, a5, a6⟩, _⟩ := e2
    subst hr
    obtain ⟨nm, ty, fl, al, ad, sz⟩ := a
    dsimp only at a1 a2 a3 a4 a5 a6
    subst a1 a2 a3 a4 a5 a6
    rfl
set_option maxHeartbeats 8000000 in
set_option maxRecDepth 20000 in
theorem knows_any (w : World) : Calls Try.prog 13 #[] w fun e w' => e = .returned (.bool true) ∧ Below w.heap.size w w' := by
  have HC : Hid (∀ n W, n = 3 ∨ n = 5 → _) := ⟨fun n W h => code_any n h W⟩
  go_enter Try.func13, Try.ntmps13
  go_upto_region 2 with (first
    | (go_at_call 30; refine (code_any 3 (.inl rfl) _).mono ?_; rintro e w1 ⟨g1, rfl, hb1⟩; have HB1 : Hid _ := ⟨hb1⟩; clear hb1)
    | (go_at_call 30; refine (code_any 5 (.inr rfl) _).mono ?_; rintro e w2 ⟨g2, rfl, hb2⟩; have HB2 : Hid _ := ⟨hb2⟩; clear hb2)
    | (go_at_call 8; refine (place_any (some ⟨w2.heap.size + 1, 0, none⟩) 2 (kL (some ⟨g1, 0, none⟩) (some ⟨w1.heap.size, 0, none⟩) (some ⟨g2, 0, none⟩) (some ⟨w2.heap.size, 0, none⟩)) _ (kL_B _ _ _ _) (kL_D _ _ _ _) (kL_fls (by have := Bk.new (w2.alloc (.cells (encS (kS 5 (some ⟨g2, 0, none⟩))).toArray 52)) #[.slice (some ⟨w1.heap.size, 0, none⟩) 1 1, .slice none 0 0, .slice (some ⟨w2.heap.size, 0, none⟩) 1 1, .slice none 0 0] 41; simp only [World.size_alloc] at this; exact this) ((((Bk.new w1 (encS (kS 3 (some ⟨g1, 0, none⟩))).toArray 52).bel HB2.out (by simp)).alloc _).alloc _) ((Bk.new w2 (encS (kS 5 (some ⟨g2, 0, none⟩))).toArray 52).alloc _))).mono ?_; rintro e w3 ⟨hb3, ⟨hno, _⟩ | ⟨st, k, sa, sc, hst, _, rfl, hon, hvn, hat, hou, hsg⟩⟩; (have e9 := kL_out (some ⟨g1, 0, none⟩) (some ⟨w1.heap.size, 0, none⟩) (some ⟨g2, 0, none⟩) (some ⟨w2.heap.size, 0, none⟩); rw [hno] at e9; cases e9); have HB3 : Hid _ := ⟨hb3⟩; have HST : Hid _ := ⟨kL_st hst⟩; have HAT : Hid (AT w3 _ (.slice k.va k.vn k.vc) k.bs [1, 1] st.at') := ⟨hat⟩; have HOU : Hid _ := ⟨hou⟩; have HVN : Hid _ := ⟨hvn⟩; clear hb3 hst hat hou hsg hvn))
  have HBW : Hid (Below w.heap.size w w3) := ⟨((HB1.out.alloc HB1.out.size _).trans (HB2.out.mono (by have := HB1.out.size; simp; omega)) |>.alloc (by have h1 := HB1.out.size; have h2 := HB2.out.size; simp at h2; omega) _ |>.alloc (by have h1 := HB1.out.size; have h2 := HB2.out.size; simp at h2 ⊢; omega) _).trans (HB3.out.mono (by have h1 := HB1.out.size; have h2 := HB2.out.size; simp at h2 ⊢; omega))⟩
  obtain ⟨hso, h41, hsl⟩ := HST.out
  clear HST HB1 HB2 HB3 HC
  rw [hsl]
  clear hsl
  obtain ⟨tt1, tt2, tt3, tt4⟩ := tnL (segsL st.outs)
  obtain ⟨spg, sen, souts, sat⟩ := st
  dsimp only at hso h41 hon HOU HAT ⊢
  subst hso
  obtain ⟨kp, kb, kao, kn, kc, kva, kvn, kvc, koa, kon, koc, kbs, kns, kF⟩ := k
  dsimp only at hon HOU HAT HVN ⊢
  subst hon
  obtain rfl : kvn = 2 := HVN.out
  obtain ⟨oo, occ', hov, hO⟩ := outs_of HOU.out
  injection hov with e1 e2 e3
  subst e1 e3
  have HK4 : Hid (Bk (w3.alloc (.cells #[.slice koa 1 koc, .slice kva 2 kvc, .slice sa 1 sc, .int .i64 tt1, .int .i64 tt2, .int .i64 tt3, .int .i64 tt4, .int .i64 sen] 28)) w3.heap.size 28 #[.slice koa 1 koc, .slice kva 2 kvc, .slice sa 1 sc, .int .i64 tt1, .int .i64 tt2, .int .i64 tt3, .int .i64 tt4, .int .i64 sen]) := ⟨Bk.new _ _ _⟩
  have HB4 : Hid (Below w.heap.size w (w3.alloc (.cells #[.slice koa 1 koc, .slice kva 2 kvc, .slice sa 1 sc, .int .i64 tt1, .int .i64 tt2, .int .i64 tt3, .int .i64 tt4, .int .i64 sen] 28))) := ⟨HBW.out.alloc HBW.out.size _⟩
  have HO4 : Hid _ := ⟨hO.below ((Below.refl w3.heap.size w3).alloc (Nat.le_refl _) (.cells #[.slice koa 1 koc, .slice kva 2 kvc, .slice sa 1 sc, .int .i64 tt1, .int .i64 tt2, .int .i64 tt3, .int .i64 tt4, .int .i64 sen] 28)) (Nat.le_refl _)⟩
  have HA4 : Hid _ := ⟨HAT.out.bel ((Below.refl w3.heap.size w3).alloc (Nat.le_refl _) (.cells #[.slice koa 1 koc, .slice kva 2 kvc, .slice sa 1 sc, .int .i64 tt1, .int .i64 tt2, .int .i64 tt3, .int .i64 tt4, .int .i64 sen] 28))⟩
  clear HBW HAT HOU hO HVN
  obtain ⟨M, hM⟩ : ∃ M, w3.heap.size = M := ⟨_, rfl⟩
  rw [hM] at HK4
  rw [hM]
  clear hM
  simp only [List.length_cons, List.length_nil, Nat.zero_add] at HB4 HO4 HA4 HK4 ⊢
  generalize (w3.alloc (.cells #[.slice koa 1 koc, .slice kva 2 kvc, .slice sa 1 sc, .int .i64 tt1, .int .i64 tt2, .int .i64 tt3, .int .i64 tt4, .int .i64 sen] 28)) = w4 at *
  have hN : nmdO [(⟨txt, 1, 6, 16, 4096, 21⟩ : Ou)] txt = some (⟨txt, 1, 6, 16, 4096, 21⟩ : Ou) := by kernel_rfl
  have HNM : Hid _ := ⟨named_any [(⟨txt, 1, 6, 16, 4096, 21⟩ : Ou)] txt koa kva sa koc 2 kvc 1 sc tt1 tt2 tt3 tt4 sen w4 (by decide) HO4.out⟩
  rw [hN] at HNM
  clear hN
  have m0 := HK4.out.cell 0 rfl
  have m1 := HK4.out.cell 1 rfl
  have m2 := HK4.out.cell 2 rfl
  have m3 := HK4.out.cell 3 rfl
  have m4 := HK4.out.cell 4 rfl
  have m5 := HK4.out.cell 5 rfl
  have m6 := HK4.out.cell 6 rfl
  have m7 := HK4.out.cell 7 rfl
  go_upto_region 3 with (go_at_call 14; refine HNM.out.mono ?_; rintro e w5 ⟨rfl, hb5⟩; have HB5 : Hid _ := ⟨hb5⟩; clear hb5)
  have HK6 : Hid (Bk (w5.alloc (.cells #[.string txt, .int .i64 1, .int .i64 6, .int .i64 16, .int .i64 4096, .int .i64 21] 47)) M _ _) := ⟨(HK4.out.bel HB5.out HK4.out.lt).alloc _⟩
  have HN6 : Hid (Bk (w5.alloc (.cells #[.string txt, .int .i64 1, .int .i64 6, .int .i64 16, .int .i64 4096, .int .i64 21] 47)) w5.heap.size 47 (encO (⟨txt, 1, 6, 16, 4096, 21⟩ : Ou)).toArray) := ⟨Bk.new _ _ _⟩
  have HA6 : Hid _ := ⟨(HA4.out.bel HB5.out).bel ((Below.refl w5.heap.size w5).alloc (Nat.le_refl _) (.cells #[.string txt, .int .i64 1, .int .i64 6, .int .i64 16, .int .i64 4096, .int .i64 21] 47))⟩
  have HB6 : Hid (Below w.heap.size w (w5.alloc (.cells #[.string txt, .int .i64 1, .int .i64 6, .int .i64 16, .int .i64 4096, .int .i64 21] 47))) := ⟨(HB4.out.trans (HB5.out.mono HB4.out.size)).alloc (by have := HB4.out.size; have := HB5.out.size; omega) _⟩
  clear HK4 HA4 HB4 HB5 HNM HO4 m0 m1 m2 m3 m4 m5 m6 m7
  obtain ⟨N, hN⟩ : ∃ N, w5.heap.size = N := ⟨_, rfl⟩
  rw [hN] at HN6 ⊢
  clear hN
  have n4 : (w5.alloc (.cells #[.string txt, .int .i64 1, .int .i64 6, .int .i64 16, .int .i64 4096, .int .i64 21] 47)).cell? ⟨N, 4, none⟩ = some (.int .i64 4096) := HN6.out.cell 4 rfl
  have n5 : (w5.alloc (.cells #[.string txt, .int .i64 1, .int .i64 6, .int .i64 16, .int .i64 4096, .int .i64 21] 47)).cell? ⟨N, 5, none⟩ = some (.int .i64 21) := HN6.out.cell 5 rfl
  have m1 := HK6.out.cell 1 rfl
  have m2 := HK6.out.cell 2 rfl
  obtain ⟨ar, cr, hv, _, _, _, hc⟩ := HA6.out.row.any encV_len
  have hkv : kva = ar := by injection hv
  clear hv
  rw [← hkv] at hc
  clear hkv
  rcases hc with hc | ⟨g, hg, _, _, hcc⟩
  · cases hc
  subst hg
  have r1 : (w5.alloc (.cells #[.string txt, .int .i64 1, .int .i64 6, .int .i64 16, .int .i64 4096, .int .i64 21] 47)).cell? ⟨g, 1, none⟩ = some (.slice (some ⟨kbs 1, 0, none⟩) 1 1) := hcc 1 (show 1 < 2 by decide) 0 (by decide)
  have b1 : (w5.alloc (.cells #[.string txt, .int .i64 1, .int .i64 6, .int .i64 16, .int .i64 4096, .int .i64 21] 47)).cell? ⟨kbs 1, 0, none⟩ = some (.int .i64 (sat 1 0)) := (HA6.out.bk 1 (show 1 < 2 by decide)).2.cell 0 rfl
  rw [h41] at b1
  clear hcc HA6 HK6 HN6 h41
  generalize (w5.alloc (.cells #[.string txt, .int .i64 1, .int .i64 6, .int .i64 16, .int .i64 4096, .int .i64 21] 47)) = w6 at *
  have HNU : Hid (∀ W, _) := ⟨fun W => num_any 0 W⟩
  go_wp2_with (go_at_call 12; refine (HNU.out _).mono ?_; rintro e w7 ⟨rfl, rfl⟩)
  go_ret
  exact ⟨rfl, HB6.out⟩
end Go.Proofs.Ytojiomkinhnodaa
