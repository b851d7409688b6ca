/- A table that is moved, plainly; tables of the call's own, as they are handed on. Tables of the call's own, as they are handed on; an entry's beginning is written. The law EhframeMoved, walked. -/
import Derived.Test.YtomboebfbipaaaaDoorELawX
namespace Go.Proofs.YtomboebfbipaaaaDoor
open Go.ChangeShapes Go.WideShapes Go.ChangeAt Go.RowKit Go.Maps
set_option linter.unusedVariables false
set_option linter.unusedSimpArgs false

theorem put_moved {enc v at' d : Int} (h16 : eFrom enc = 16) (h1 : putE enc v at' 0 = 0) (h2 : putE enc (v + d) (at' + d) 0 = 0) : putL enc (v + d) (at' + d) 0 = putL enc v at' 0 := by
  unfold putL
  rw [if_pos h1, if_pos h2]
  have e : ∀ a, baseV enc a 0 = a := fun a => by unfold baseV; rw [if_pos h16]
  rw [e, e, show v + d - (at' + d) = v - at' by omega]
/-- An entry that is moved. -/
def shF (d : Int) (x : Fe) : Fe := ⟨x.cie, x.beg + d, x.size, x.ops⟩
theorem fde_moved {addr enc d : Int} {place : Nat} {x : Fe} {L M M' : List Int} (h16 : eFrom enc = 16) (h1 : fdeM addr enc place x L = some M) (h2 : fdeM (addr + d) enc place (shF d x) L = some M') : M' = M := by
  unfold fdeM at h1 h2
  split at h1
  · cases h1
  · rename_i a1
    split at h1
    · cases h1
    · split at h2
      · cases h2
      · rename_i a2
        split at h2
        · cases h2
        · have a1' : putE enc x.beg (addr + ((L.length : Int) + 4) + 4) 0 = 0 := by simpa using a1
          have e : addr + d + ((L.length : Int) + 4) + 4 = addr + ((L.length : Int) + 4) + 4 + d := by omega
          have a2' : putE enc (x.beg + d) (addr + ((L.length : Int) + 4) + 4 + d) 0 = 0 := by
            have : putE enc (shF d x).beg (addr + d + ((L.length : Int) + 4) + 4) 0 = 0 := by simpa using a2
            rw [e] at this
            exact this
          have hp := put_moved h16 a1' a2'
          injection h1 with h1
          injection h2 with h2
          rw [← h1, ← h2, e]
          show L ++ recB _ (putL enc (x.beg + d) (addr + ((L.length : Int) + 4) + 4 + d) 0 ++ putL (enc % 16) x.size 0 0 ++ [0]) x.ops = _
          rw [hp]
theorem grpM_moved {addr enc d : Int} {place : Nat} {f f' : List Fe} (h16 : eFrom enc = 16) : ∀ (is : List Int) (L A A2 M B M' B' : List Int), (∀ i ∈ is, f'.getD i.toNat Fe.zero = shF d (f.getD i.toNat Fe.zero)) →
    grpM addr enc place f is (L, A) = some (M, B) → grpM (addr + d) enc place f' is (L, A2) = some (M', B') → M' = M
  | [], L, A, A2, M, B, M', B', _, h1, h2 => by
    simp only [grpM, Option.some.injEq, Prod.mk.injEq] at h1 h2
    rw [← h1.1, ← h2.1]
  | i :: is, L, A, A2, M, B, M', B', hf, h1, h2 => by
    simp only [grpM] at h1 h2
    rw [hf i (by simp)] at h2
    cases e1 : fdeM addr enc place (f.getD i.toNat Fe.zero) L with
    | none => rw [e1] at h1; cases h1
    | some L1 =>
      cases e2 : fdeM (addr + d) enc place (shF d (f.getD i.toNat Fe.zero)) L with
      | none => rw [e2] at h2; cases h2
      | some L2 =>
        have := fde_moved h16 e1 e2
        subst this
        rw [e1] at h1
        rw [e2] at h2
        exact grpM_moved h16 is _ _ _ _ _ _ _ (fun j hj => hf j (by simp [hj])) h1 h2
theorem run_moved {addr d : Int} {c : List Ce} {f f' : List Fe} (h16 : ∀ x ∈ c, eFrom x.enc = 16) (hl : f'.length = f.length) (hf : ∀ i, i < f.length → f'.getD i Fe.zero = shF d (f.getD i Fe.zero)) (hg : ∀ k, grp f' f'.length k = grp f f.length k) :
    ∀ (k : Nat) (L A L' A' : List Int), k ≤ c.length → runM addr c f k = some (L, A) → runM (addr + d) c f' k = some (L', A') → L' = L
  | 0, L, A, L', A', _, h1, h2 => by
    simp only [runM, Option.some.injEq, Prod.mk.injEq] at h1 h2
    rw [← h1.1, ← h2.1]
  | k + 1, L, A, L', A', hk, h1, h2 => by
    cases e1 : runM addr c f k with
    | none => simp only [runM, e1] at h1; cases h1
    | some p =>
      obtain ⟨L1, A1⟩ := p
      cases e2 : runM (addr + d) c f' k with
      | none => simp only [runM, e2] at h2; cases h2
      | some q =>
        obtain ⟨L2, A2⟩ := q
        have := run_moved h16 hl hf hg k L1 A1 L2 A2 (by omega) e1 e2
        subst this
        rw [run_succ e1] at h1
        rw [run_succ e2, hg] at h2
        refine grpM_moved (h16 _ (ce_in (by omega))) _ _ _ _ _ _ _ _ (fun i hi => ?_) h1 h2
        unfold grp at hi
        obtain ⟨j, hj, rfl⟩ := List.mem_map.1 hi
        have hj2 := List.mem_range.1 (List.mem_filter.1 hj).1
        rw [Int.toNat_natCast]
        exact hf j hj2
theorem wri_0 {c : List Ce} {f : List Fe} {addr : Int} (h : (wriR c f addr false).1 = 0) : ∃ L A, runM addr c f c.length = some (L, A) ∧ (wriR c f addr false).2.1 = L ∧ numsB c f = true ∧ 0 ≤ addr ∧ addr ≤ 576460752303423488 := by
  unfold wriR at h ⊢
  split at h
  · rename_i h1; exact absurd h h1
  · rename_i h1
    have hc : checkE c f = 0 := by simpa using h1
    split at h
    · cases h
    · rename_i h2
      rw [if_neg h1, if_neg h2]
      cases e : runM addr c f c.length with
      | none => rw [e] at h; cases h
      | some p =>
        obtain ⟨L, A⟩ := p
        rw [e] at h
        by_cases hb : 1048576 < (L ++ endB false).length
        · rw [wriT_big hb] at h; cases h
        · rw [wriT_ok hb]
          exact ⟨L, A, rfl, List.append_nil _, (check_0 hc).2, by omega, by omega⟩
/-- An entry whose beginning is moved, as the law moves it. -/
def mvF (d : Int) (x : Fe) : Fe := ⟨x.cie, wrap64 (x.beg + d), x.size, x.ops⟩
theorem moved_plain {c : List Ce} {f : List Fe} {addr d : Int} (hd0 : -1125899906842624 < d) (hd1 : d < 1125899906842624) (h16 : ∀ x ∈ c, eFrom x.enc = 16) (h1 : (wriR c f addr false).1 = 0) (h2 : (wriR c (f.map (mvF d)) (wrap64 (addr + d)) false).1 = 0) :
    (wriR c (f.map (mvF d)) (wrap64 (addr + d)) false).2.1 = (wriR c f addr false).2.1 := by
  obtain ⟨L, A, r1, e1, n1, a0, a1⟩ := wri_0 h1
  have hw : wrap64 (addr + d) = addr + d := by unfold wrap64; omega
  rw [hw] at h2 ⊢
  obtain ⟨L', A', r2, e2, n2, _, _⟩ := wri_0 h2
  rw [e1, e2]
  have hfb := (nums_in n1).2
  have hl : (f.map (mvF d)).length = f.length := by simp
  have hget : ∀ i, i < f.length → (f.map (mvF d)).getD i Fe.zero = shF d (f.getD i Fe.zero) := fun i hi => by
    have h3 := hfb _ (fe_in hi)
    have h4 : awayB (f.getD i Fe.zero).beg = false := by simp [feB] at h3; exact h3.2.2.1
    have h5 := away_of h4
    have e3 : (f.map (mvF d)).getD i Fe.zero = mvF d (f.getD i Fe.zero) := by simp [hi]
    rw [e3]
    unfold mvF shF
    rw [show wrap64 ((f.getD i Fe.zero).beg + d) = (f.getD i Fe.zero).beg + d by unfold wrap64; omega]
  refine run_moved h16 hl hget (fun k => ?_) c.length L A L' A' (Nat.le_refl _) r1 r2
  unfold grp
  rw [hl]
  congr 1
  apply List.filter_congr
  intro i hi
  have hi2 := List.mem_range.1 hi
  rw [hget i hi2]
  rfl
theorem from_16 {enc : Int} (h : enc.tdiv 16 * 16 = 16) : eFrom enc = 16 := by
  unfold eFrom
  have h1 : enc.tdiv 16 = 1 := by omega
  by_cases h0 : 0 ≤ enc
  · rw [Int.tdiv_eq_ediv_of_nonneg h0] at h1
    omega
  · have : enc.tdiv 16 ≤ 0 := by
      have e := Int.neg_tdiv (-enc) 16
      rw [Int.neg_neg] at e
      rw [e, Int.tdiv_eq_ediv_of_nonneg (by omega)]
      omega
    omega

theorem celC_at : ∀ (ps : List (Ce × Value)) (k : Nat) (hk : k < ps.length), (celC ps)[k * 2]? = some (.int .i64 (ps[k]).1.enc) ∧ (celC ps)[k * 2 + 1]? = some (ps[k]).2
  | p :: ps, 0, _ => ⟨rfl, rfl⟩
  | p :: ps, k + 1, hk => by
    have ih := celC_at ps k (by simpa using hk)
    have e : celC (p :: ps) = [Value.int .i64 p.1.enc, p.2] ++ celC ps := rfl
    rw [e, show (k + 1) * 2 = k * 2 + 2 by omega]
    simpa using ih
theorem celF_at : ∀ (ps : List (Fe × Value)) (k : Nat) (hk : k < ps.length), (celF ps)[k * 4]? = some (.int .i64 (ps[k]).1.cie) ∧ (celF ps)[k * 4 + 1]? = some (.int .i64 (ps[k]).1.beg) ∧ (celF ps)[k * 4 + 2]? = some (.int .i64 (ps[k]).1.size) ∧ (celF ps)[k * 4 + 3]? = some (ps[k]).2
  | p :: ps, 0, _ => ⟨rfl, rfl, rfl, rfl⟩
  | p :: ps, k + 1, hk => by
    have ih := celF_at ps k (by simpa using hk)
    have e : celF (p :: ps) = [Value.int .i64 p.1.cie, Value.int .i64 p.1.beg, Value.int .i64 p.1.size, p.2] ++ celF ps := rfl
    rw [e, show (k + 1) * 4 = k * 4 + 4 by omega]
    simpa using ih
theorem own_cell {w : World} {b g e s n m cap : Nat} {xs : List Value} {cur : Array Value} (hg : w.heap[g]? = some (.cells cur e (0, 0))) (ht : cur.toList.take m = xs) {j : Nat} {x : Value} (hj : xs[j]? = some x) : w.cell? ⟨g, j, none⟩ = some x := by
  have hlt : j < m := by
    rw [← ht] at hj
    have := (List.getElem?_eq_some_iff.1 hj).1
    simp at this
    omega
  rw [← ht, List.getElem?_take_of_lt hlt] at hj
  simp only [World.cell?, hg]
  simpa using hj
theorem TC.cs {w : World} {b : Nat} {v : Value} {l : List Ce} (h : TC w b v l) : ∃ ao cap, v = .slice ao l.length cap ∧ Cs w ao l := by
  obtain ⟨ps, h1, h2, h3⟩ := h.row
  rcases h2.2 with ⟨rfl, e⟩ | ⟨g, cap, cur, rfl, e1, e2, e3, e4, e5, e6⟩
  · exact ⟨none, 0, by rw [e], .inl e⟩
  · refine ⟨_, cap, rfl, .inr ⟨g, 0, rfl, fun k hk => ?_⟩⟩
    have hkp : k < ps.length := by rw [← h1] at hk; simpa using hk
    obtain ⟨c0, c1⟩ := celC_at ps k hkp
    have el : l.getD k Ce.zero = (ps[k]).1 := by rw [← h1]; simp [hkp]
    obtain ⟨a, cp, hr, hI⟩ := (h3 ps[k] (List.getElem_mem hkp)).is
    rw [el, Nat.zero_add]
    exact ⟨a, cp, own_cell (b := 0) (s := 0) (n := 0) (cap := 0) e2 e6 c0, by rw [own_cell (b := 0) (s := 0) (n := 0) (cap := 0) e2 e6 c1, hr], hI⟩
theorem TF.fs {w : World} {b : Nat} {v : Value} {l : List Fe} (h : TF w b v l) : ∃ ao cap, v = .slice ao l.length cap ∧ Fs w ao l ∧ (1 ≤ l.length → ∃ g, ao = some ⟨g, 0, none⟩ ∧ b ≤ g) := by
  obtain ⟨ps, h1, h2, h3⟩ := h.row
  rcases h2.2 with ⟨rfl, e⟩ | ⟨g, cap, cur, rfl, e1, e2, e3, e4, e5, e6⟩
  · exact ⟨none, 0, by rw [e], .inl e, fun h => by omega⟩
  · refine ⟨_, cap, rfl, .inr ⟨g, 0, rfl, fun k hk => ?_⟩, fun _ => ⟨g, rfl, e1⟩⟩
    have hkp : k < ps.length := by rw [← h1] at hk; simpa using hk
    obtain ⟨c0, c1, c2, c3⟩ := celF_at ps k hkp
    have el : l.getD k Fe.zero = (ps[k]).1 := by rw [← h1]; simp [hkp]
    obtain ⟨a, cp, hr, hI⟩ := (h3 ps[k] (List.getElem_mem hkp)).is
    rw [el, Nat.zero_add]
    exact ⟨a, cp, own_cell (b := 0) (s := 0) (n := 0) (cap := 0) e2 e6 c0, own_cell (b := 0) (s := 0) (n := 0) (cap := 0) e2 e6 c1, own_cell (b := 0) (s := 0) (n := 0) (cap := 0) e2 e6 c2, by rw [own_cell (b := 0) (s := 0) (n := 0) (cap := 0) e2 e6 c3, hr], hI⟩
theorem celF_set : ∀ (ps : List (Fe × Value)) (k : Nat) (x : Int) (hk : k < ps.length), celF (ps.set k (⟨(ps[k]).1.cie, x, (ps[k]).1.size, (ps[k]).1.ops⟩, (ps[k]).2)) = (celF ps).set (k * 4 + 1) (.int .i64 x)
  | p :: ps, 0, x, _ => rfl
  | p :: ps, k + 1, x, hk => by
    have ih := celF_set ps k x (by simpa using hk)
    have e : celF (p :: ps) = [Value.int .i64 p.1.cie, Value.int .i64 p.1.beg, Value.int .i64 p.1.size, p.2] ++ celF ps := rfl
    rw [e, show (k + 1) * 4 + 1 = (k * 4 + 1) + 4 by omega]
    simp only [List.set_cons_succ, List.getElem_cons_succ]
    have e2 : ∀ q : Fe × Value, ∀ qs, celF (q :: qs) = [Value.int .i64 q.1.cie, Value.int .i64 q.1.beg, Value.int .i64 q.1.size, q.2] ++ celF qs := fun _ _ => rfl
    rw [e2, ih]
    simp
/-- An entry's beginning is written. -/
theorem TF.set {w : World} {b g n cap : Nat} {l : List Fe} (h : TF w b (.slice (some ⟨g, 0, none⟩) n cap) l) {k : Nat} (hk : k < l.length) (x : Int) :
    ∃ V, w.setCell ⟨g, k * 4 + 1, none⟩ (.int .i64 x) = w.setRow g V ∧ TF (w.setRow g V) b (.slice (some ⟨g, 0, none⟩) n cap) (l.set k ⟨(l.getD k Fe.zero).cie, x, (l.getD k Fe.zero).size, (l.getD k Fe.zero).ops⟩) ∧ Bk w g 57 (match w.heap[g]? with | some (.cells cur _ _) => cur | _ => #[]) := by
  obtain ⟨ps, h1, h2, h3⟩ := h.row
  have hkp : k < ps.length := by rw [← h1] at hk; simpa using hk
  have el : l.getD k Fe.zero = (ps[k]).1 := by rw [← h1]; simp [hkp]
  have hpl : ps.length = l.length := by rw [← h1]; simp
  rcases h2.2 with ⟨e, _⟩ | ⟨g', cap', cur, e, e1, e2, e3, e4, e5, e6⟩
  · cases e
  · injection e with ea eb ec
    injection ea with ea
    injection ea with ea _ _
    subst ea
    subst ec
    have hB : Bk w g 57 cur := ⟨e2⟩
    refine ⟨cur.setIfInBounds (k * 4 + 1) (.int .i64 x), setCell_eq_setRow w g (k * 4 + 1) cur _ (0, 0) _ e2, ⟨ps.set k (⟨(ps[k]).1.cie, x, (ps[k]).1.size, (ps[k]).1.ops⟩, (ps[k]).2), ?_, ?_, fun p hp => ?_⟩, by rw [e2]; exact hB⟩
    · rw [el, List.map_set, h1]
    · rw [List.length_set, celF_set ps k x hkp]
      refine ⟨by rw [List.length_set]; exact h2.1, .inr ⟨g, cap, cur.setIfInBounds (k * 4 + 1) (.int .i64 x), by rw [eb], e1, (hB.setR _).hp, e3, e4, by simpa using e5, ?_⟩⟩
      rw [← e6]
      simp [List.take_set]
    · have hg := grown_set w g (cur.setIfInBounds (k * 4 + 1) (.int .i64 x))
      have hfar : ∀ (u : Value) (m : List Oq), OwnP w b u m → OwnP (w.setRow g (cur.setIfInBounds (k * 4 + 1) (.int .i64 x))) b u m := fun u m hu => hu.farP hg (fun q hq e7 => by
        obtain ⟨c2, e8⟩ := hu.ltP q hq
        injection e7 with e7
        subst e7
        have := e2.symm.trans e8
        injection this with this
        injection this with _ e9 _
        exact absurd e9 (by decide))
      rcases List.mem_or_eq_of_mem_set hp with hp | hp
      · exact hfar _ _ (h3 p hp)
      · subst hp
        exact hfar (ps[k]).2 (ps[k]).1.ops (h3 ps[k] (List.getElem_mem hkp))

/-- The first k entries moved. -/
def mvL (d : Int) (f : List Fe) (k : Nat) : List Fe := (f.take k).map (mvF d) ++ f.drop k
theorem mvL_len (d : Int) (f : List Fe) (k : Nat) : (mvL d f k).length = f.length := by unfold mvL; simp; omega
theorem mvL_at {d : Int} {f : List Fe} {k : Nat} (h : k < f.length) : (mvL d f k).getD k Fe.zero = f.getD k Fe.zero := by
  unfold mvL
  have e : ((f.take k).map (mvF d)).length = k := by simp; omega
  rw [List.getD_eq_getElem?_getD, List.getElem?_append_right (by omega), e]
  simp
theorem mvL_succ {d : Int} {f : List Fe} {k : Nat} (h : k < f.length) : (mvL d f k).set k (mvF d (f.getD k Fe.zero)) = mvL d f (k + 1) := by
  unfold mvL
  have e : ((f.take k).map (mvF d)).length = k := by simp; omega
  rw [List.set_append_right _ _ (by omega), e, Nat.sub_self, takeF h, List.map_append, List.append_assoc]
  congr 1
  have hd : f.drop k = f.getD k Fe.zero :: f.drop (k + 1) := by
    rw [List.drop_eq_getElem_cons h]
    simp [h]
  rw [hd]
  rfl
theorem mvL_all (d : Int) (f : List Fe) : mvL d f f.length = f.map (mvF d) := by unfold mvL; simp

theorem tmod_50 (d : Int) : -1125899906842624 < d.tmod 1125899906842624 ∧ d.tmod 1125899906842624 < 1125899906842624 := by
  by_cases h0 : 0 ≤ d
  · rw [Int.tmod_eq_emod_of_nonneg h0]; omega
  · have e := Int.neg_tmod (-d) 1125899906842624
    rw [Int.neg_neg] at e
    rw [e, Int.tmod_eq_emod_of_nonneg (by omega)]
    omega
theorem tdiv_16 {x : Int} (h : -9223372036854775808 ≤ x ∧ x ≤ 9223372036854775807) : -576460752303423488 ≤ x.tdiv 16 ∧ x.tdiv 16 ≤ 576460752303423487 := by
  by_cases h0 : 0 ≤ x
  · rw [Int.tdiv_eq_ediv_of_nonneg h0]; omega
  · have e := Int.neg_tdiv (-x) 16
    rw [Int.neg_neg] at e
    rw [e, Int.tdiv_eq_ediv_of_nonneg (by omega)]
    omega
set_option maxHeartbeats 8000000 in
set_option maxRecDepth 20000 in
theorem ehframeMoved_walk (ac : Option Addr) (cc : Nat) (c : List Ce) (af : Option Addr) (cf : Nat) (f : List Fe) (addr d : Int) (w : World) (hC : Cs w ac c) (hF : Fs w af f) (hcl : c.length ≤ 4398046511000) (hfl : f.length ≤ 2932031007400) (hci : ∀ x ∈ c, x.ini.length ≤ 5864062014634) (hfi : ∀ x ∈ f, x.ops.length ≤ 5864062014634) (hei : ∀ x ∈ c, -9223372036854775808 ≤ x.enc ∧ x.enc ≤ 9223372036854775807) (hz : Fz w) :
    Calls Tryd.prog 5 #[.slice ac c.length cc, .slice af f.length cf, .int .i64 addr, .int .i64 d] w fun e w' => e = .returned (.bool true) ∧ Below w.heap.size w w' := by
  have HLv : Hid (∀ W : World, Below w.heap.size w W → Calls Tryd.prog 11 #[] W fun e w' => e = .returned (.bool true) ∧ Below W.heap.size W w') := ⟨fun W hb => live_any W (hz.bel hb hz.z)⟩
  have HTb : Hid _ := ⟨tables_any ac cc c af cf f w hC hF hcl hfl hci hfi⟩
  have HC : Hid _ := ⟨hC⟩
  have HEI : Hid _ := ⟨hei⟩
  have HZ : Hid _ := ⟨hz⟩
  clear hC hF hci hfi hei hz
  obtain ⟨d2, hd2⟩ : ∃ x, d.tmod 1125899906842624 = x := ⟨_, rfl⟩
  have HD2 : Hid (-1125899906842624 < d2 ∧ d2 < 1125899906842624) := ⟨by rw [← hd2]; exact tmod_50 d⟩
  go_enter Tryd.func5, Tryd.ntmps5
  go_wp2
  go_loopw [9] (fun iv wr => ∃ k : Nat, k ≤ c.length ∧ iv = .int .i64 k ∧ wr = w ∧ Hid (∀ j, j < k → (c.getD j Ce.zero).enc.tdiv 16 * 16 = 16)) (fun iv _ => c.length - (intOf iv).toNat)
  case atStart => exact ⟨0, by omega, rfl, rfl, ⟨fun j hj => by omega⟩⟩
  case round =>
    obtain ⟨k, hk, rfl, hwr, HV⟩ := hrel
    replace hwr := hwr.symm
    subst hwr
    by_cases hlt : k < c.length
    · obtain ⟨b, off, rfl, hat⟩ : ∃ b off, ac = some ⟨b, off, none⟩ ∧ ∀ j, j < c.length → CeAt w b (off + j * 2) (c.getD j Ce.zero) := by
        rcases HC.out with h | h
        · omega
        · exact h
      have q1 : (k : Int) < (c.length : Int) := by omega
      have q0 : (0 : Int) ≤ (k : Int) := by omega
      obtain ⟨a, cp, c0, c1, hI⟩ := hat k hlt
      have hin := HEI.out _ (ce_in hlt)
      obtain ⟨q, hq⟩ : ∃ q, (c.getD k Ce.zero).enc.tdiv 16 = q := ⟨_, rfl⟩
      have hqb : -576460752303423488 ≤ q ∧ q ≤ 576460752303423487 := by rw [← hq]; exact tdiv_16 hin
      obtain ⟨hqb0, hqb1⟩ := hqb
      obtain ⟨m, hm⟩ : ∃ m, q * 16 = m := ⟨_, rfl⟩
      have m0 : -9223372036854775808 ≤ m := by omega
      have m1 : m ≤ 9223372036854775807 := by omega
      by_cases h16 : m = 16
      · have HX : Hid (∀ j, j < k + 1 → (c.getD j Ce.zero).enc.tdiv 16 * 16 = 16) := ⟨fun j hj => by
          by_cases e : j = k
          · subst e; rw [hq, hm]; exact h16
          · exact HV.out j (by omega)⟩
        subst h16
        clear hat hI hin
        generalize (c.getD k Ce.zero) = x at *
        go_wp2
        go_roundw
        case rel => exact ⟨k + 1, by omega, by go_num, trivial, HX⟩
        case measure => simp [intOf]; omega
      · have b1 : (m != 16) = true := by simpa using h16
        have b2 : (m == 16) = false := by simpa using h16
        clear hat hI hin
        generalize (c.getD k Ce.zero) = x at *
        go_wp2_with (go_at_call 11; (with_reducible refine (HLv.out _ (Below.refl _ _)).mono ?_); rintro e w5 ⟨he, hb5⟩; subst he)
        go_ret
        exact ⟨rfl, hb5⟩
    · obtain rfl : k = c.length := by omega
      have q1 : ¬ (c.length : Int) < (c.length : Int) := by omega
      have H16 : Hid (∀ x ∈ c, eFrom x.enc = 16) := ⟨fun x hx => by
        obtain ⟨j, hj, rfl⟩ := List.mem_iff_getElem.1 hx
        have := HV.out j hj
        simp [hj] at this
        exact from_16 this⟩
      clear HV
      go_upto_region 8 with (go_at_call 12; (with_reducible refine HTb.out.mono ?_); rintro e w1 ⟨v1, v2, he, t1, t2, hb1⟩; subst he; have H1 : Hid (TC w1 w.heap.size v1 c ∧ TF w1 w.heap.size v2 f ∧ Below w.heap.size w w1) := ⟨t1, t2, hb1⟩; clear t1 t2 hb1)
      obtain ⟨a1, c1, hv1, hCs⟩ := H1.out.1.cs
      obtain ⟨a2, c2, hv2, hFs, _⟩ := H1.out.2.1.fs
      subst hv1
      subst hv2
      have HW1 : Hid _ := ⟨pwri a1 c1 c a2 c2 f addr false w1 hCs hFs (by omega) (by omega) HEI.out (HZ.out.bel H1.out.2.2 HZ.out.z)⟩
      clear hCs hFs
      obtain ⟨R1, hR1⟩ : ∃ R, wriR c f addr false = R := ⟨_, rfl⟩
      rw [hR1] at HW1
      obtain ⟨E1, B1, A1⟩ := R1
      have HR1 : Hid _ := ⟨hR1⟩
      clear hR1
      go_upto_region 9 with (go_at_call 13; (with_reducible refine HW1.out.mono ?_); rintro e w2 ⟨vb, vt, he, ho2, _, hb2⟩; subst he; have H2 : Hid (TC w2 w.heap.size (.slice a1 c.length c1) c ∧ TF w2 w.heap.size (.slice a2 f.length c2) f ∧ Below w.heap.size w w2 ∧ Own w2 w.heap.size vb B1) := ⟨H1.out.1.bel hb2, H1.out.2.1.bel hb2, H1.out.2.2.trans (hb2.mono H1.out.2.2.size), Own.lowE ho2 H1.out.2.2.size⟩; clear ho2 hb2)
      clear HW1
      go_wp2
      go_loopw [15] (fun iv wq => ∃ k : Nat, k ≤ f.length ∧ iv = .int .i64 k ∧ Hid (TC wq w.heap.size (.slice a1 c.length c1) c ∧ TF wq w.heap.size (.slice a2 f.length c2) (mvL d2 f k) ∧ Below w.heap.size w wq ∧ Own wq w.heap.size vb B1)) (fun iv _ => f.length - (intOf iv).toNat)
      case atStart => exact ⟨0, by omega, rfl, ⟨H2.out.1, H2.out.2.1, H2.out.2.2.1, H2.out.2.2.2⟩⟩
      case round =>
        obtain ⟨k, hk2, rfl, HV⟩ := hrel
        by_cases hlt2 : k < f.length
        · obtain ⟨hTC, hTF, hbl, hOb⟩ := HV.out
          obtain ⟨ao, cap, hv2, hFs, hgg⟩ := hTF.fs
          obtain ⟨g, hg, hgl⟩ := hgg (by rw [mvL_len]; omega)
          subst hg
          injection hv2 with e1 e2 e3
          subst e1
          subst e3
          have q3 : (k : Int) < (f.length : Int) := by omega
          have q4 : (0 : Int) ≤ (k : Int) := by omega
          obtain ⟨b', off', e4, hat⟩ : ∃ b off, (some ⟨g, 0, none⟩ : Option Addr) = some ⟨b, off, none⟩ ∧ ∀ j, j < (mvL d2 f k).length → FeAt wr b (off + j * 4) ((mvL d2 f k).getD j Fe.zero) := by
            rcases hFs with h | h
            · rw [mvL_len] at h; omega
            · exact h
          injection e4 with e4
          injection e4 with e5 e6 _
          subst e5
          subst e6
          obtain ⟨a, cp, x0, x1, x2, x3, hI⟩ := hat k (by rw [mvL_len]; exact hlt2)
          rw [mvL_at hlt2, Nat.zero_add] at x1
          have x1' := x1
          obtain ⟨V, hset, hTF2, hB⟩ := hTF.set (k := k) (by rw [mvL_len]; exact hlt2) (wrap64 ((f.getD k Fe.zero).beg + d2))
          rw [mvL_at hlt2] at hTF2
          have hTF3 : TF (wr.setRow g V) w.heap.size (.slice (some ⟨g, 0, none⟩) f.length c2) (mvL d2 f (k + 1)) := by
            rw [← mvL_succ hlt2]; exact hTF2
          have hgs := grown_set wr g V
          have hTC2 : TC (wr.setRow g V) w.heap.size (.slice a1 c.length c1) c := hTC.far (v2 := .slice (some ⟨g, 0, none⟩) f.length c2) hgs hTF
          have hO2 : Own (wr.setRow g V) w.heap.size vb B1 := own_far hOb hgs (fun e => hOb.not_bk hB (by decide) e.symm)
          have hb2 : Below w.heap.size w (wr.setRow g V) := hbl.trans (below_set _ _ _ hgl)
          have HN : Hid (TC (wr.setRow g V) w.heap.size (.slice a1 c.length c1) c ∧ TF (wr.setRow g V) w.heap.size (.slice (some ⟨g, 0, none⟩) f.length c2) (mvL d2 f (k + 1)) ∧ Below w.heap.size w (wr.setRow g V) ∧ Own (wr.setRow g V) w.heap.size vb B1) := ⟨hTC2, hTF3, hb2, hO2⟩
          have HSet : Hid _ := ⟨hset⟩
          have fr := hB.fro
          obtain ⟨nb, hnb⟩ : ∃ nb, wrap64 ((f.getD k Fe.zero).beg + d2) = nb := ⟨_, rfl⟩
          rw [hnb] at HSet
          clear hTC hTF hbl hOb hFs hat x0 x2 x3 hI hTF2 hTF3 hTC2 hO2 hb2 hgs hset hB x1' HV e2 HTb HC HLv
          generalize (f.getD k Fe.zero).beg = bg at *
          go_wp2
          rw [HSet.out]
          go_roundw
          case rel => exact ⟨k + 1, by omega, by go_num, HN⟩
          case measure => simp [intOf]; omega
        · obtain rfl : k = f.length := by omega
          have q3 : ¬ (f.length : Int) < (f.length : Int) := by omega
          obtain ⟨hTC, hTF, hbl, hOb⟩ := HV.out
          rw [mvL_all] at hTF
          by_cases e0 : E1 = 0
          rotate_left
          · have n1 : (E1 != 0) = true := by simpa using e0
            have n2 : (E1 == 0) = false := by simpa using e0
            have HBl : Hid _ := ⟨hbl⟩
            clear hTC hTF hbl hOb HV
            go_wp2_with (first
              | (go_at_call 10; (with_reducible refine (enum_any _ _).mono ?_); rintro e wn ⟨he, hwn⟩; subst he; subst wn)
              | (go_at_call 11; (with_reducible refine (HLv.out _ HBl.out).mono ?_); rintro e w5 ⟨he, hb5⟩; subst he))
            go_ret
            exact ⟨rfl, HBl.out.trans (hb5.mono HBl.out.size)⟩
          subst e0
          obtain ⟨a3, c3, hv3, hCs⟩ := hTC.cs
          obtain ⟨a4, c4, hv4, hFs, _⟩ := hTF.fs
          have hl4 : (f.map (mvF d2)).length = f.length := by simp
          injection hv3 with e1 _ e3
          subst e1
          subst e3
          rw [hl4] at hv4
          injection hv4 with e4 _ e6
          subst e4
          subst e6
          obtain ⟨ad2, had2⟩ : ∃ x, wrap64 (addr + d2) = x := ⟨_, rfl⟩
          have HW2 := pwri a1 c1 c a2 c2 (f.map (mvF d2)) ad2 false wr hCs hFs (by omega) (by rw [hl4]; omega) HEI.out (HZ.out.bel hbl HZ.out.z)
          obtain ⟨R2, hR2⟩ : ∃ R, wriR c (f.map (mvF d2)) ad2 false = R := ⟨_, rfl⟩
          rw [hR2, hl4] at HW2
          obtain ⟨E2, B2, A2⟩ := R2
          have HSame : Hid (E2 = 0 → B2 = B1) := ⟨fun e => by
            have h1 : (wriR c f addr false).1 = 0 := by rw [HR1.out]
            have h2 : (wriR c (f.map (mvF d2)) (wrap64 (addr + d2)) false).1 = 0 := by rw [had2, hR2]; exact e
            have := moved_plain HD2.out.1 HD2.out.2 H16.out h1 h2
            rw [had2, hR2, HR1.out] at this
            exact this⟩
          have HW3 : Hid _ := ⟨HW2⟩
          have H6 : Hid (Below w.heap.size w wr ∧ Own wr w.heap.size vb B1) := ⟨hbl, hOb⟩
          clear hTC hTF hbl hOb HV hCs hFs HW2 hR2
          go_upto_region 16 with (first
            | (go_at_call 10; (with_reducible refine (enum_any _ _).mono ?_); rintro e wn ⟨he, hwn⟩; subst he; subst wn)
            | (go_at_call 13; (with_reducible refine HW3.out.mono ?_); rintro e w7 ⟨vb2, vt2, he, ho7, _, hb7⟩; subst he; have H7 : Hid (Below w.heap.size w w7 ∧ Own w7 w.heap.size vb B1 ∧ Own w7 w.heap.size vb2 B2) := ⟨H6.out.1.trans (hb7.mono H6.out.1.size), H6.out.2.bel hb7, Own.lowE ho7 H6.out.1.size⟩; clear ho7 hb7))
          by_cases e2 : E2 = 0
          · subst e2
            have hB := HSame.out rfl
            subst hB
            obtain ⟨Y, hY⟩ : ∃ Y, strOfNums B2 = Y := ⟨_, rfl⟩
            have hc1 := H7.out.2.1.bt.conv
            have hc2 := H7.out.2.2.bt.conv
            rw [hY] at hc1 hc2
            have e5 : (Y.toList == Y.toList) = true := by simp
            go_wp2_with (first
              | (go_at_call 10; (with_reducible refine (enum_any _ _).mono ?_); rintro e wn ⟨he, hwn⟩; subst he; subst wn)
              | (go_at_call 11; (with_reducible refine (HLv.out _ H7.out.1).mono ?_); rintro e w8 ⟨he, hb8⟩; subst he))
            go_ret
            exact ⟨rfl, H7.out.1.trans (hb8.mono H7.out.1.size)⟩
          · have n1 : (E2 != 0) = true := by simpa using e2
            have n2 : (E2 == 0) = false := by simpa using e2
            go_wp2_with (first
              | (go_at_call 10; (with_reducible refine (enum_any _ _).mono ?_); rintro e wn ⟨he, hwn⟩; subst he; subst wn)
              | (go_at_call 11; (with_reducible refine (HLv.out _ H7.out.1).mono ?_); rintro e w8 ⟨he, hb8⟩; subst he))
            go_ret
            exact ⟨rfl, H7.out.1.trans (hb8.mono H7.out.1.size)⟩
end Go.Proofs.YtomboebfbipaaaaDoor
