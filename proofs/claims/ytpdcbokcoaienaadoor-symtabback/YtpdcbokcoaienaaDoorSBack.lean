/- What Write wrote, and Read reads of it. -/
import Derived.Test.YtpdcbokcoaienaaDoorSBackP
import Derived.Test.YtpdcbokcoaienaaDoorSRead2
import Derived.Test.YtpdcbokcoaienaaDoorSSyms
namespace Go.Proofs.YtpdcbokcoaienaaDoor
open Go.ChangeShapes Go.WideShapes Go.ChangeAt Go.RowKit
set_option linter.unusedVariables false
set_option linter.unusedSimpArgs false

/-- Bytes that a call made, and that stay. -/
structure BW (w : World) (a : Option Addr) (n c : Nat) (xs : List Int) : Prop where
  row : ∀ W, Below w.heap.size w W → Row W a n (gd xs)
  nil : a = none → n = 0
  fit : n ≤ c
  top : c ≤ 9223372036854775807
  cv : CV w (.slice a n c) xs

theorem Own.get {w : World} {base : Nat} {v : Value} {xs : List Int} (h : Own w base v xs) : ∃ a c, v = .slice a xs.length c ∧ BW w a xs.length c xs := by
  have hcv := h.cv
  by_cases h0 : 1 ≤ xs.length
  · obtain ⟨g, cap, rfl, h1, h2, h3⟩ := h.row h0
    exact ⟨_, cap, rfl, h3, (fun e => by cases e), h1, h2, hcv⟩
  · have h0' : xs.length = 0 := by omega
    rcases h.2 with ⟨rfl, hn⟩ | ⟨g, cap, cur, rfl, _, _, h1, h2, _⟩
    · exact ⟨none, 0, by rw [h0'], fun W _ => .inl h0', fun _ => h0', by omega, by omega, by rw [h0']; exact hcv⟩
    · exact ⟨_, cap, rfl, fun W _ => .inl h0', fun _ => h0', h1, by unfold maxLen at h2; omega, hcv⟩

/-- How a Write that wrote ends. -/
def BEnds (N : Nat) (Y b : List Int) (n : Int) (w : World) (e : Ending) (w' : World) : Prop :=
  ∃ ay cy ab cb, e = .returned (.tuple #[.slice ay (24 * (N + 1)) cy, .slice ab b.length cb, .int .i64 n, .int .i64 0]) ∧ BW w' ay (24 * (N + 1)) cy Y ∧ BW w' ab b.length cb b ∧ Below w.heap.size w w'

theorem back_write {l : List Sym} {ss : List ByteArray} (hc : checkE l ss = 0) {m : ByteArray → Option Int} (hm : numM ss = some m) {b A : List Int} (hst : strM ((ordL l).map Sym.nm) = .ok (b, A)) (hl2 : ss.length ≤ 8796093022208) (hsz : SZ l) (hz2 : ∀ s ∈ ss, s.size ≤ 9223372036854775807)
    (a a2 : Option Addr) (c c2 : Nat) (w : World) (hr : Syms w a l) (hs : Strs w a2 ss) (hf : Fz w) :
    Calls Tryd.prog 6 #[.slice a l.length c, .slice a2 ss.length c2] w fun e w' => BEnds l.length (symsB (ordL l) A m) b (1 + (locs l).length) w e w' := by
  obtain ⟨n1, _⟩ := check_ok hc
  refine (write_ok a a2 c c2 l ss w (by omega) hl2 hr hs hsz hz2 hf hc m hm b A hst).mono ?_
  rintro e w' ⟨vy, vs, rfl, o1, o2, _, hb⟩
  obtain ⟨ay, cy, rfl, B1⟩ := o1.get
  obtain ⟨ab, cb, rfl, B2⟩ := o2.get
  rw [symsB_len, ordL_len] at B1 ⊢
  exact ⟨ay, cy, ab, cb, rfl, B1, B2, hb⟩

theorem back_write2 {l : List Sym} {ss : List ByteArray} (hc : checkE l ss = 0) {m : ByteArray → Option Int} (hm : numM ss = some m) {b A : List Int} (hst : strM ((ordL l).map Sym.nm) = .ok (b, A)) (hl2 : ss.length ≤ 8796093022208) (hsz : SZ l) (hz2 : ∀ s ∈ ss, s.size ≤ 9223372036854775807)
    (a a2 : Option Addr) (c c2 : Nat) (w : World) (hr : Syms w a (ordL l)) (hs : Strs w a2 ss) (hf : Fz w) :
    Calls Tryd.prog 6 #[.slice a l.length c, .slice a2 ss.length c2] w fun e w' => BEnds l.length (symsB (ordL l) A m) b (1 + (locs l).length) w e w' := by
  obtain ⟨e1, e2⟩ := ordL_ordL l
  have := back_write (l := ordL l) (check_ord hc) hm (b := b) (A := A) (by rw [e1]; exact hst) hl2 (fun s h => hsz s (ordL_mem h)) hz2 a a2 c c2 w hr hs hf
  rw [e1, e2, ordL_len] at this
  exact this

theorem back_read {l : List Sym} {ss : List ByteArray} (hc : checkE l ss = 0) {m : ByteArray → Option Int} (hm : numM ss = some m) {b A : List Int} (hst : strM ((ordL l).map Sym.nm) = .ok (b, A)) (hl2 : ss.length ≤ 8796093022208) (hsz : SZ l) (hz2 : ∀ s ∈ ss, s.size ≤ 9223372036854775807)
    (ay ab a2 : Option Addr) (cy cb c2 : Nat) (w : World) (B1 : BW w ay (24 * (l.length + 1)) cy (symsB (ordL l) A m)) (B2 : BW w ab b.length cb b) (hs : Strs w a2 ss) (hf : Fz w) :
    Calls Tryd.prog 13 #[.slice ay (24 * (l.length + 1)) cy, .slice ab b.length cb, .int .i64 (1 + (locs l).length), .slice a2 ss.length c2] w fun e w' =>
      ∃ ao c, e = .returned (.tuple #[.slice ao l.length c, .int .i64 0]) ∧ Syms w' ao (ordL l) ∧ Below w.heap.size w w' := by
  obtain ⟨n1, n2, n3, n4, _⟩ := check_ok hc
  obtain ⟨_, _, T, hT, g, hTl⟩ := strM_ok hst
  rw [hT] at hTl
  have hbb : ∀ x ∈ b, 0 ≤ x ∧ x < 256 := by rw [← hT]; exact g.byte
  have hY : (symsB (ordL l) A m).length = 24 * (l.length + 1) := by rw [symsB_len, ordL_len]
  have hp := back_all hc hm hst ay ab a2 cy cb c2
  rw [hY] at hp
  have W1 : ∀ a c a2 c2 w, Syms w a (ordL l) → Strs w a2 ss → Fz w → Calls Tryd.prog 6 #[.slice a (ordL l).length c, .slice a2 ss.length c2] w fun e w' => WE2 (symsB (ordL l) A m) b (1 + (locs l).length) 0 w e w' := fun a c a2 c2 w h1 h2 h3 => by
    obtain ⟨e1, e2⟩ := ordL_ordL l
    have := write_ok a a2 c c2 (ordL l) ss w (by rw [ordL_len]; omega) hl2 h1 h2 (fun s h => hsz s (ordL_mem h)) hz2 h3 (check_ord hc) m hm b A (by rw [e1]; exact hst)
    refine this.mono ?_
    rintro e w' ⟨vy, vs, rfl, o1, o2, _, hb⟩
    rw [e1] at o1
    rw [e2]
    exact ⟨_, _, rfl, o1, o2, hb⟩
  have R := read_some ⟨ay, 24 * (l.length + 1), cy, gd (symsB (ordL l) A m), ab, b.length, cb, gd b, a2, c2, ss⟩ w ⟨B1.row _ (Below.refl _ _), gd_byte (symsB_byte _ _ _), by show 24 * (l.length + 1) ≤ 1048576; omega, B2.row _ (Below.refl _ _), gd_byte hbb, hTl, B2.fit, B2.top, hs, hl2, hz2⟩ hf (1 + (locs l).length) (ordL l) hp (symsB (ordL l) A m) b (1 + (locs l).length) 0 W1 (strOfNums (symsB (ordL l) A m)) (strOfNums b) B1.cv B2.cv
  simp only [beq_self_eq_true, Bool.and_self, if_true] at R
  refine R.mono ?_
  rintro e w' ⟨ao, c, rfl, ho, hb⟩
  obtain ⟨ao', c', hv, _, _, hsy, _⟩ := ho.any
  simp only [Value.slice.injEq] at hv
  obtain ⟨rfl, _, rfl⟩ := hv
  exact ⟨ao, c, by rw [ordL_len], hsy, hb⟩

theorem cut_at (l : List Sym) (i : Nat) (hi : i < l.length) : l = l.take i ++ (l[i] :: l.drop (i + 1)) := by
  rw [← List.drop_eq_getElem_cons hi, List.take_append_drop]

theorem loc_at (l : List Sym) (i : Nat) (hi : i < l.length) : (((ordL l).getD i Sym.none).b == 0) = decide (i < (locs l).length) := by
  have hi' : i < (ordL l).length := by rw [ordL_len]; exact hi
  have hg : (ordL l).getD i Sym.none = (ordL l)[i] := by simp [hi']
  rw [hg]
  by_cases h : i < (locs l).length
  · have e : (ordL l)[i] = (locs l)[i] := List.getElem_append_left h
    rw [e, decide_eq_true h]
    exact (List.mem_filter.1 (List.getElem_mem h)).2
  · have h2 : i - (locs l).length < (oths l).length := by
      unfold ordL at hi'; rw [List.length_append] at hi'; omega
    have e : (ordL l)[i] = (oths l)[i - (locs l).length] := List.getElem_append_right (by omega)
    rw [e, decide_eq_false h]
    have := (List.mem_filter.1 (List.getElem_mem h2)).2
    simpa using this

theorem loc_pos (l : List Sym) (i : Nat) (hi : i < l.length) (hb : ((l.getD i Sym.none).b == 0) = true) : (ordL l).getD (locs (l.take i)).length Sym.none = l.getD i Sym.none ∧ (locs (l.take i)).length < l.length ∧ (locs (l.take (i + 1))).length = (locs (l.take i)).length + 1 := by
  have hg : l.getD i Sym.none = l[i] := by simp [hi]
  rw [hg] at hb ⊢
  have e : locs l = locs (l.take i) ++ (l[i] :: locs (l.drop (i + 1))) := by
    conv => lhs; rw [cut_at l i hi]
    unfold locs
    rw [List.filter_append, List.filter_cons_of_pos (by exact hb)]
  have hle : (locs (l.take i)).length ≤ i := Nat.le_trans (List.length_filter_le _ _) (by simp; omega)
  refine ⟨?_, by omega, ?_⟩
  · unfold ordL
    rw [e, List.getD_eq_getElem?_getD, List.append_assoc, List.getElem?_append_right (Nat.le_refl _)]
    simp
  · rw [List.take_succ_eq_append_getElem hi, locs_snoc, hb]
    simp
theorem oth_pos (l : List Sym) (i : Nat) (hi : i < l.length) (hb : ((l.getD i Sym.none).b == 0) = false) : (ordL l).getD ((locs l).length + (oths (l.take i)).length) Sym.none = l.getD i Sym.none ∧ (locs l).length + (oths (l.take i)).length < l.length ∧ (oths (l.take (i + 1))).length = (oths (l.take i)).length + 1 := by
  have hg : l.getD i Sym.none = l[i] := by simp [hi]
  rw [hg] at hb ⊢
  have e : oths l = oths (l.take i) ++ (l[i] :: oths (l.drop (i + 1))) := by
    conv => lhs; rw [cut_at l i hi]
    unfold oths
    rw [List.filter_append, List.filter_cons_of_pos (by simp only [hb]; rfl)]
  have hlen := ordL_len l
  unfold ordL at hlen
  rw [List.length_append, e, List.length_append, List.length_cons] at hlen
  refine ⟨?_, by omega, ?_⟩
  · unfold ordL
    rw [List.getD_eq_getElem?_getD, List.getElem?_append_right (by omega), Nat.add_sub_cancel_left, e, List.getElem?_append_right (Nat.le_refl _)]
    simp
  · rw [List.take_succ_eq_append_getElem hi, oths_snoc, hb]
    simp
theorem loc_skip (l : List Sym) (i : Nat) (hi : i < l.length) (hb : ((l.getD i Sym.none).b == 0) = false) : (locs (l.take (i + 1))).length = (locs (l.take i)).length := by
  have hg : l.getD i Sym.none = l[i] := by simp [hi]
  rw [hg] at hb
  rw [List.take_succ_eq_append_getElem hi, locs_snoc, hb]
  simp
theorem oth_skip (l : List Sym) (i : Nat) (hi : i < l.length) (hb : ((l.getD i Sym.none).b == 0) = true) : (oths (l.take (i + 1))).length = (oths (l.take i)).length := by
  have hg : l.getD i Sym.none = l[i] := by simp [hi]
  rw [hg] at hb
  rw [List.take_succ_eq_append_getElem hi, oths_snoc, hb]
  simp
end Go.Proofs.YtpdcbokcoaienaaDoor
