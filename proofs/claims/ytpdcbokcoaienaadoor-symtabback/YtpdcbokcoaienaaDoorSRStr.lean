/- The contract of the document's own Strings. -/
import Derived.Test.YtpdcbokcoaienaaDoorSRow
import Derived.Test.YtpdcbokcoaienaaDoorSRef
import Derived.Test.YtpdcbokcoaienaaDoorSOnceP
namespace Go.Proofs.YtpdcbokcoaienaaDoor
open Go.ChangeShapes Go.WideShapes Go.ChangeAt Go.RowKit
set_option linter.unusedVariables false
set_option linter.unusedSimpArgs false

/-- Names and where they begin, one by one: what the table's map says. -/
structure RI (T : TB) (N : List ByteArray) (Bg : List Int) : Prop where
  len : Bg.length = N.length
  cnt : N.length ≤ T.b.length
  emp : T.m ByteArray.empty = some 0
  at' : ∀ s, s ≠ ByteArray.empty → T.m s = if pl N s < N.length then some (Bg.getD (pl N s) 0) else none

theorem RI.start : RI T0 [] [] := by
  refine ⟨rfl, by simp, by simp [T0, mput], fun s hs => ?_⟩
  simp [T0, mput, hs]

theorem pl_snoc (N : List ByteArray) (s t : ByteArray) : pl (N ++ [s]) t = if pl N t < N.length then pl N t else if s = t then N.length else N.length + 1 := by
  unfold pl
  rw [List.findIdx_append]
  by_cases h : N.findIdx (fun x => decide (x = t)) < N.length
  · rw [if_pos h, if_pos h]
  · rw [if_neg h, if_neg h]
    by_cases e : s = t
    · simp [List.findIdx_cons, e]
    · simp [List.findIdx_cons, e]; omega

theorem RI.new {T : TB} {N : List ByteArray} {Bg : List Int} (h : RI T N Bg) (s : ByteArray) (hs : s ≠ ByteArray.empty) (hm : T.m s = none) : RI (T.put s) (N ++ [s]) (Bg ++ [(T.b.length : Int)]) := by
  have e2 : T.put s = ⟨T.b ++ bts s ++ [0], mput T.m s T.b.length⟩ := by unfold TB.put; rw [hm]; rfl
  have hpl : ¬ pl N s < N.length := fun h1 => by
    have := h.at' s hs
    rw [hm, if_pos h1] at this
    cases this
  rw [e2]
  refine ⟨by simp [h.len], by have := h.cnt; simp; omega, ?_, fun t ht => ?_⟩
  · show mput T.m s _ _ = _
    unfold mput
    rw [if_neg (Ne.symm hs)]
    exact h.emp
  · show mput T.m s _ _ = _
    unfold mput
    rw [pl_snoc, List.length_append, List.length_singleton]
    by_cases e : t = s
    · subst e
      rw [if_pos rfl, if_neg hpl, if_pos rfl, if_pos (by omega)]
      have := getD_snoc Bg (T.b.length : Int)
      rw [h.len] at this
      rw [this]
    · rw [if_neg e, h.at' t ht]
      by_cases h1 : pl N t < N.length
      · rw [if_pos h1, if_pos h1, if_pos (by omega), getD_snoc_left _ _ _ (by rw [h.len]; exact h1)]
      · rw [if_neg h1, if_neg h1, if_neg (Ne.symm e), if_neg (by omega)]

theorem RI.same {T : TB} {N : List ByteArray} {Bg : List Int} (h : RI T N Bg) (s : ByteArray) (hs : s ≠ ByteArray.empty) (h1 : pl N s < N.length) : T.put s = T ∧ T.at' s = Bg.getD (pl N s) 0 := by
  have hm := h.at' s hs
  rw [if_pos h1] at hm
  exact ⟨by unfold TB.put; rw [hm]; rfl, by unfold TB.at'; rw [hm]; rfl⟩
theorem RI.emps {T : TB} {N : List ByteArray} {Bg : List Int} (h : RI T N Bg) : T.put ByteArray.empty = T ∧ T.at' ByteArray.empty = 0 :=
  ⟨by unfold TB.put; rw [h.emp]; rfl, by unfold TB.at'; rw [h.emp]; rfl⟩
theorem RI.none {T : TB} {N : List ByteArray} {Bg : List Int} (h : RI T N Bg) (s : ByteArray) (hs : s ≠ ByteArray.empty) (h1 : ¬ pl N s < N.length) : T.m s = none ∧ T.at' s = T.b.length := by
  have hm := h.at' s hs
  rw [if_neg h1] at hm
  exact ⟨hm, by unfold TB.at'; rw [hm]; rfl⟩
theorem pl_le (N : List ByteArray) (s : ByteArray) : pl N s ≤ N.length := List.findIdx_le_length
theorem put_new {T : TB} {s : ByteArray} (hm : T.m s = none) : (T.put s).b = T.b ++ bts s ++ [0] := by unfold TB.put; rw [hm]; rfl

/-- What lies in memory while the document's own table is made. -/
structure RA (w wr : World) (vb va vn vg : Value) (T : TB) (A : List Int) (N : List ByteArray) (Bg : List Int) : Prop where
  b : Own wr w.heap.size vb T.b
  a : OwnI wr w.heap.size va A
  n : OwnS wr w.heap.size vn N
  g : OwnI wr w.heap.size vg Bg
  ap : Apart va vg
  ri : RI T N Bg
  bel : Below w.heap.size w wr

/-- One place more. -/
theorem RA.place {w wr w' : World} {vb va vn vg v' : Value} {T : TB} {A : List Int} {N : List ByteArray} {Bg : List Int} (h : RA w wr vb va vn vg T A N Bg) {p : Int} (hr : OwnI w' w.heap.size v' (A ++ [p])) (st : Step wr w' va v') : RA w w' vb v' vn vg T (A ++ [p]) N Bg := by
  have k1 := st.keep h.b (own_apart' (by decide) h.a h.b)
  have k2 := st.keep h.n (own_apart' (by decide) h.a h.n)
  have k3 := st.keep h.g h.ap.symm
  exact ⟨k1.1, hr, k2.1, k3.1, k3.2.symm, h.ri, h.bel.trans (st.below h.a h.bel.size)⟩

theorem RA.names {w wr : World} {vb va : Value} {an ag : Option Addr} {n cn cg : Nat} {T : TB} {A : List Int} {N : List ByteArray} {Bg : List Int} (h : RA w wr vb va (.slice an n cn) (.slice ag n cg) T A N Bg) : n = N.length ∧ Strs wr an N ∧ ∀ i, i < N.length → ∃ g, ag = some ⟨g, 0, none⟩ ∧ wr.cell? ⟨g, i, none⟩ = some (.int .i64 (Bg.getD i 0)) := by
  obtain ⟨ao, cap, hv, _, _, hS, _⟩ := h.n.any
  simp only [Value.slice.injEq] at hv
  obtain ⟨rfl, rfl, rfl⟩ := hv
  obtain ⟨ao2, cap2, hv2, hc⟩ := h.g.any
  simp only [Value.slice.injEq] at hv2
  obtain ⟨rfl, _, rfl⟩ := hv2
  refine ⟨rfl, hS, fun i hi => ?_⟩
  have hi' : i < Bg.length := by rw [h.ri.len]; exact hi
  obtain ⟨g, e, hcc⟩ := hc i hi'
  exact ⟨g, e, hcc i hi'⟩

theorem OwnI.cell {w : World} {base g n cap : Nat} {xs : List Int} (h : OwnI w base (.slice (some ⟨g, 0, none⟩) n cap) xs) {i : Nat} (hi : i < xs.length) : w.cell? ⟨g, i, none⟩ = some (.int .i64 (xs.getD i 0)) := by
  obtain ⟨g', cap', hv, _, _, hc⟩ := h.lies (by omega)
  simp only [Value.slice.injEq, Option.some.injEq, Addr.mk.injEq] at hv
  obtain ⟨⟨rfl, _⟩, _⟩ := hv
  exact hc i hi

/-- A row of ints, as a slice of so many. -/
theorem OwnI.form {w : World} {base : Nat} {v : Value} {xs : List Int} (h : OwnI w base v xs) {n : Nat} (hn : xs.length = n) : ∃ ao cap, v = .slice ao n cap ∧ n ≤ cap ∧ cap ≤ 9223372036854775807 := by
  subst hn
  rcases h.2 with ⟨hv, h0⟩ | ⟨g, cap, cur, hv, _, _, h1, h2, _⟩
  · exact ⟨none, 0, by rw [hv, h0], by omega, by omega⟩
  · exact ⟨_, cap, hv, h1, by unfold maxLen at h2; omega⟩

/-- A new name, its place, its bytes. -/
theorem RA.fresh {w wr w1 w2 w3 w4 : World} {vb va vn vg vn' vg' v3 v4 : Value} {T : TB} {A : List Int} {N : List ByteArray} {Bg : List Int} (h : RA w wr vb va vn vg T A N Bg) {s : ByteArray} (hs : s ≠ ByteArray.empty) (hm : T.m s = none)
    (h1 : OwnS w1 w.heap.size vn' (N ++ [s])) (s1 : Step wr w1 vn vn') (h2 : OwnI w2 w.heap.size vg' (Bg ++ [(T.b.length : Int)])) (s2 : Step w1 w2 vg vg')
    (h3 : Own w3 w.heap.size v3 (T.b ++ bts s)) (g3 : w2.grownBy w3 vb.ownBlock) (h4 : Own w4 w.heap.size v4 (T.b ++ bts s ++ [0])) (g4 : (w3.alloc (.cells #[.int .u8 0] 5)).grownBy w4 v3.ownBlock) :
    RA w w4 v4 va vn' vg' (T.put s) A (N ++ [s]) (Bg ++ [(T.b.length : Int)]) := by
  have a1 := (s1.keep h.a (own_apart' (by decide) h.n h.a)).1
  have b1 := (s1.keep h.b (own_apart' (by decide) h.n h.b)).1
  have gg1 := (s1.keep h.g (own_apart' (by decide) h.n h.g)).1
  have a2 := s2.keep a1 h.ap
  have b2 := (s2.keep b1 (own_apart' (by decide) gg1 b1)).1
  have n2 := (s2.keep h1 (own_apart' (by decide) gg1 h1)).1
  have t3 : Turn (fun k => vb.ownBlock = some k) w2 w3 := (Turn.refl _ w2).grown g3 (fun k _ e => e)
  have a3 := t3.row a2.1 (fun k hk => own_apart' (by decide) b2 a2.1 k hk)
  have n3 := t3.row n2 (fun k hk => own_apart' (by decide) b2 n2 k hk)
  have gg3 := t3.row h2 (fun k hk => own_apart' (by decide) b2 h2 k hk)
  have t4 : Turn (fun k => v3.ownBlock = some k) w3 w4 := ((Turn.refl _ w3).alloc _).grown g4 (fun k _ e => e)
  have a4 := t4.row a3 (fun k hk => own_apart' (by decide) h3 a3 k hk)
  have n4 := t4.row n3 (fun k hk => own_apart' (by decide) h3 n3 k hk)
  have gg4 := t4.row gg3 (fun k hk => own_apart' (by decide) h3 gg3 k hk)
  refine ⟨by rw [put_new hm]; exact h4, a4, n4, gg4, a2.2, h.ri.new s hs hm, ?_⟩
  have e1 := h.bel.trans (s1.below h.n h.bel.size)
  have e2 := e1.trans (s2.below gg1 e1.size)
  have e3 := e2.trans (t3.below e2.size (fun k hk => (b2.lt k hk).1))
  exact e3.trans (t4.below e3.size (fun k hk => (h3.lt k hk).1))

/-- The second loop's answer. -/
def SM (l : List ByteArray) : Except Int (List Int × List Int) := match strF l T0 [] with | none => .error 6 | some p => .ok (p.1.b, p.2)

theorem own1 (w : World) : Own (w.alloc (.cells #[.int .u8 0] 5)) w.heap.size (.slice (some ⟨w.heap.size, 0, none⟩) 1 1) [0] := by
  refine ⟨rfl, .inr ⟨w.heap.size, 1, #[.int .u8 0], rfl, Nat.le_refl _, ?_, Nat.le_refl _, by unfold maxLen; omega, rfl, rfl⟩⟩
  show (w.heap.push _)[w.heap.size]? = _
  simp

theorem strM_zero {l : List ByteArray} (h : l.any zeroB = true) : strM l = .error 80 := by unfold strM; rw [h]; rfl
theorem strM_long {l : List ByteArray} (hz : l.any zeroB = false) (h : l.any longB = true) : strM l = .error 6 := by unfold strM; rw [hz, h]; rfl
theorem strM_good {l : List ByteArray} (hz : l.any zeroB = false) (h : l.any longB = false) : strM l = SM l := by unfold strM; rw [hz, h]; rfl

set_option maxHeartbeats 4000000 in
set_option maxRecDepth 10000 in
theorem rstrings_any (ao : Option Addr) (c : Nat) (l : List ByteArray) (w : World) (hl : l.length ≤ 8796093022208) (hr : Strs w ao l) (hsz : ∀ s ∈ l, s.size ≤ 9223372036854775807) :
    Calls Tryd.prog 22 #[.slice ao l.length c] w fun e w' => SEnds (strM l) w e w' := by
  have HR : Hid (Strs w ao l) := ⟨hr⟩
  have HZ : Hid (∀ s ∈ l, s.size ≤ 9223372036854775807) := ⟨hsz⟩
  obtain ⟨M, HM⟩ : ∃ M, Hid (strM l = M) := ⟨_, ⟨rfl⟩⟩
  rw [HM.out]
  clear hr hsz
  go_enter Tryd.func22, Tryd.ntmps22
  go_wp2
  go_loop [6, 5] (fun i f => ∃ (k : Nat) (q : Bool), k ≤ l.length ∧ i = .int .i64 k ∧ f = .bool q ∧ Hid ((l.take k).any zeroB = false ∧ q = (l.take k).any longB)) (fun i f => l.length - (intOf i).toNat)
  case atStart => exact ⟨0, false, by omega, rfl, rfl, ⟨by simp⟩⟩
  case round =>
    obtain ⟨k, q, hk, rfl, rfl, HQ⟩ := hrel
    by_cases hlt : k < l.length
    · obtain ⟨b, off, rfl, hcell⟩ : ∃ b off, ao = some ⟨b, off, none⟩ ∧ ∀ i, i < l.length → w.cell? ⟨b, off + i, none⟩ = some (.string (l.getD i ByteArray.empty)) := by
        rcases HR.out with h | h
        · subst h; simp at hlt
        · exact h
      have hcx := hcell k hlt
      have hget : l.getD k ByteArray.empty = l[k] := by simp [hlt]
      rw [hget] at hcx
      have C := rzero_any l[k] w (HZ.out _ (List.getElem_mem hlt))
      have htz : (l.take (k + 1)).any zeroB = zeroB l[k] := by rw [List.take_succ_eq_append_getElem hlt, List.any_append, HQ.out.1]; simp
      have htl : (l.take (k + 1)).any longB = (q || longB l[k]) := by rw [List.take_succ_eq_append_getElem hlt, List.any_append, ← HQ.out.2]; simp
      cases hz : zeroB l[k]
      · rw [hz] at C htz
        have HC : Hid _ := ⟨C⟩
        have HTZ : Hid _ := ⟨htz⟩
        have HTL : Hid _ := ⟨htl⟩
        clear C htz htl hz hcell hget
        cases q
        · by_cases hlg : 255 < l[k].size
          · have HL : Hid (longB l[k] = true) := ⟨by unfold longB; exact decide_eq_true hlg⟩
            go_wp2_with (go_at_call 43; refine HC.out.mono ?_; rintro e w' ⟨rfl, hw'⟩; subst w')
            go_round
            case rel => exact ⟨k + 1, true, hlt, by go_num, by go_num, ⟨HTZ.out, by rw [HTL.out, HL.out]; rfl⟩⟩
            case measure => simp [intOf]; omega
          · have HL : Hid (longB l[k] = false) := ⟨by unfold longB; exact decide_eq_false hlg⟩
            go_wp2_with (go_at_call 43; refine HC.out.mono ?_; rintro e w' ⟨rfl, hw'⟩; subst w')
            go_round
            case rel => exact ⟨k + 1, false, hlt, by go_num, by go_num, ⟨HTZ.out, by rw [HTL.out, HL.out]; rfl⟩⟩
            case measure => simp [intOf]; omega
        · go_wp2_with (go_at_call 43; refine HC.out.mono ?_; rintro e w' ⟨rfl, hw'⟩; subst w')
          go_round
          case rel => exact ⟨k + 1, true, hlt, by go_num, rfl, ⟨HTZ.out, by rw [HTL.out]; rfl⟩⟩
          case measure => simp [intOf]; omega
      · rw [hz] at C
        have HC : Hid _ := ⟨C⟩
        have hM : M = .error 80 := by
          rw [← HM.out]
          exact strM_zero (List.any_eq_true.2 ⟨l[k], List.getElem_mem hlt, hz⟩)
        have HMM : Hid _ := ⟨hM⟩
        clear C htz htl hz hcell hget hM
        go_wp2_with (go_at_call 43; refine HC.out.mono ?_; rintro e w' ⟨rfl, hw'⟩; subst w')
        go_ret3
        rw [HMM.out]
        exact ⟨rfl, Below.refl _ _⟩
    · obtain rfl : k = l.length := by omega
      have hq := HQ.out
      rw [List.take_of_length_le (Nat.le_refl _)] at hq
      obtain ⟨hq1, hq2⟩ := hq
      cases q
      · have hM : M = SM l := by rw [← HM.out]; exact strM_good hq1 hq2.symm
        have HMM : Hid _ := ⟨hM⟩
        have HL : Hid (∀ s ∈ l, s.size ≤ 255) := ⟨fun s hs => by
          have := List.any_eq_false.1 hq2.symm s hs
          simpa [longB] using this⟩
        clear hM hq1 hq2
        go_wp2
        go_loopw [11, 7, 8, 9, 10] (fun i vb va vn vg wr => ∃ (k : Nat) (T : TB) (A : List Int) (N : List ByteArray) (Bg : List Int) (g0 cap0 L n : Nat) (an : Option Addr) (cn : Nat) (ag : Option Addr) (cg : Nat), k ≤ l.length ∧ i = .int .i64 k ∧ vb = .slice (some ⟨g0, 0, none⟩) L cap0 ∧ vn = .slice an n cn ∧ vg = .slice ag n cg ∧
          1 ≤ L ∧ L ≤ 1048576 ∧ n ≤ L ∧ A.length = k ∧ Hid (RA w wr vb va vn vg T A N Bg ∧ T.b.length = L) ∧ Hid (strF l T0 [] = strF (l.drop k) T A)) (fun i _ _ _ _ _ => l.length - (intOf i).toNat)
        case atStart => exact ⟨0, T0, [], [], [], w.heap.size, 1, 1, 0, none, 0, none, 0, by omega, rfl, rfl, rfl, rfl, by omega, by omega, by omega, rfl, ⟨⟨own1 w, OwnI.nil _ _, OwnS.nil _ _, OwnI.nil _ _, Apart.nil _, RI.start, (Below.refl _ _).alloc (Nat.le_refl _) _⟩, rfl⟩, ⟨by simp⟩⟩
        case round =>
          obtain ⟨k, T, A, N, Bg, g0, cap0, L, n, an, cn, ag, cg, hk, rfl, rfl, rfl, rfl, h1, hT, hnL, hA, HRA, HF⟩ := hrel
          by_cases hlt : k < l.length
          · obtain ⟨b, off, rfl, hcell⟩ : ∃ b off, ao = some ⟨b, off, none⟩ ∧ ∀ i, i < l.length → wr.cell? ⟨b, off + i, none⟩ = some (.string (l.getD i ByteArray.empty)) := by
              rcases HR.out.below HRA.out.1.bel (Nat.le_refl _) with h | h
              · subst h; simp at hlt
              · exact h
            have hcx := hcell k hlt
            have hget : l.getD k ByteArray.empty = l[k] := by simp [hlt]
            rw [hget] at hcx
            have hsz := HL.out l[k] (List.getElem_mem hlt)
            have F : strF (l.drop k) T A = if 1048576 < (T.put l[k]).b.length then none else strF (l.drop (k + 1)) (T.put l[k]) (A ++ [T.at' l[k]]) := by
              rw [List.drop_eq_getElem_cons hlt]; rfl
            have HCC : Hid (∀ w', Below w.heap.size w w' → w'.cell? ⟨b, off + k, none⟩ = some (.string l[k])) := ⟨fun w' hb => by
              rcases HR.out.below hb (Nat.le_refl _) with h | ⟨b', off', e, h⟩
              · subst h; simp at hlt
              · simp only [Option.some.injEq, Addr.mk.injEq] at e
                obtain ⟨rfl, rfl, _⟩ := e
                rw [h k hlt, hget]⟩
            generalize l[k] = s at *
            have hem := decide_eq_emptyBytes s
            have hbs := HRA.out.1.bel.size
            have HFF : Hid _ := ⟨F⟩
            clear F hcell hget
            by_cases hs : s = ByteArray.empty
            · rw [decide_eq_true hs] at hem
              have he : s.toList.isEmpty = true := hem.symm
              have HE : Hid (strF l T0 [] = strF (l.drop (k + 1)) T (A ++ [0])) := ⟨by
                have := HRA.out.1.ri.emps
                rw [HF.out, HFF.out, hs, this.1, this.2, if_neg (by rw [HRA.out.2]; omega)]⟩
              clear hem hs
              go_wp2_with (at_builtin; refine append_int _ rfl _ _ rfl w.heap.size _ A rfl HRA.out.1.a 0 rfl (by omega) hbs ?_; intro v1 w1 hr1 hs1)
              go_roundw
              case rel => exact ⟨k + 1, T, A ++ [0], N, Bg, g0, cap0, L, n, an, cn, ag, cg, hlt, by go_num, rfl, rfl, rfl, h1, hT, hnL, by simp [hA], ⟨HRA.out.1.place hr1 hs1, HRA.out.2⟩, HE⟩
              case measure => simp [intOf]; omega
            · rw [decide_eq_false hs] at hem
              have he : s.toList.isEmpty = false := hem.symm
              obtain ⟨hn, hS, hgc⟩ := HRA.out.1.names
              subst hn
              have C := rplace_any an cn N s wr (by omega) hS
              have HC : Hid _ := ⟨C⟩
              by_cases hp : pl N s < N.length
              · have hsame := HRA.out.1.ri.same s hs hp
                obtain ⟨gg, rfl, hcg⟩ := hgc _ hp
                have HE : Hid (strF l T0 [] = strF (l.drop (k + 1)) T (A ++ [Bg.getD (pl N s) 0])) := ⟨by
                  rw [HF.out, HFF.out, hsame.1, hsame.2, if_neg (by rw [HRA.out.2]; omega)]⟩
                generalize Bg.getD (pl N s) 0 = p at *
                generalize pl N s = j at *
                have hne : ((j : Int) == (N.length : Int)) = false := by simp; omega
                clear hem hs C hS hgc hsame
                go_wp2_with (first
                  | (go_at_call 23; refine HC.out.mono ?_; rintro e w' ⟨rfl, hw'⟩; subst w')
                  | (at_builtin; refine append_int _ rfl _ _ rfl w.heap.size _ A rfl HRA.out.1.a p rfl (by omega) hbs ?_; intro v1 w1 hr1 hs1))
                go_roundw
                case rel => exact ⟨k + 1, T, A ++ [p], N, Bg, g0, cap0, L, N.length, an, cn, _, cg, hlt, by go_num, rfl, rfl, rfl, h1, hT, hnL, by simp [hA], ⟨HRA.out.1.place hr1 hs1, HRA.out.2⟩, HE⟩
                case measure => simp [intOf]; omega
              · have hnone := HRA.out.1.ri.none s hs hp
                have hpe : pl N s = N.length := by have := pl_le N s; omega
                rw [hpe] at HC
                have hput := put_new hnone.1
                have hpl : (T.put s).b.length = L + (s.size + 1) := by rw [hput]; simp [bts_len]; rw [HRA.out.2]
                have hat : T.at' s = (L : Int) := by rw [hnone.2, HRA.out.2]
                rw [hpl, hat] at HFF
                have HHS : Hid (s ≠ ByteArray.empty) := ⟨hs⟩
                have HNO : Hid (T.m s = none) := ⟨hnone.1⟩
                have HPL : Hid _ := ⟨hpl⟩
                have heq : ((N.length : Int) == (N.length : Int)) = true := by simp
                generalize hNL : N.length = m at *
                have hnl2 : m ≤ 1048576 := by omega
                clear hem hs C hS hgc hnone hput hat hpe hp hpl
                have tk2 : True := trivial
                obtain ⟨L2, hL2⟩ : ∃ L2, L + (s.size + 1) = L2 := ⟨_, rfl⟩
                rw [hL2] at HFF HPL
                have hL3 : m + 1 ≤ L2 := by omega
                have HL2 : Hid _ := ⟨hL2⟩
                clear hL2
                by_cases hbig : 1048576 < L2
                · have hMM : M = .error 6 := by
                    rw [HMM.out]
                    unfold SM
                    rw [HF.out, HFF.out, if_pos hbig]
                  have HM2 : Hid _ := ⟨hMM⟩
                  clear hMM
                  go_wp2_with (first
                    | (go_at_call 23; refine HC.out.mono ?_; rintro e w' ⟨rfl, hw'⟩; subst w')
                    | (at_builtin; refine append_name _ rfl _ _ rfl w.heap.size _ N rfl HRA.out.1.n s rfl (by rw [hNL]; omega) hbs ?_; intro v1 w1 hr1 hs1; obtain ⟨a1, c1, hv1, _, _, _, _⟩ := hr1.any; rw [List.length_append, hNL, List.length_singleton] at hv1; subst hv1; have gg1 : OwnI w1 w.heap.size _ Bg := (hs1.keep HRA.out.1.g (own_apart' (by decide) HRA.out.1.n HRA.out.1.g)).1; have b1 : Own w1 w.heap.size _ T.b := (hs1.keep HRA.out.1.b (own_apart' (by decide) HRA.out.1.n HRA.out.1.b)).1; have hb1 := Nat.le_trans hbs hs1.turn.size)
                    | (at_builtin; have _t := tk2; refine append_int _ rfl _ _ rfl w.heap.size _ Bg rfl gg1 L rfl (by rw [HRA.out.1.ri.len, hNL]; omega) hb1 ?_; intro v2 w2 hr2 hs2; obtain ⟨g2, c2, hv2, _, _, _⟩ := hr2.lies (by simp); rw [List.length_append, HRA.out.1.ri.len, hNL, List.length_singleton] at hv2; subst hv2; have b2 : Own w2 w.heap.size _ T.b := (hs2.keep b1 (own_apart' (by decide) gg1 b1)).1; have hb2 := Nat.le_trans hb1 hs2.turn.size; have hcx2 := HCC.out w2 ((HRA.out.1.bel.trans (hs1.below HRA.out.1.n HRA.out.1.bel.size)).trans (hs2.below gg1 hb1)); clear tk2 _t)
                    | (at_builtin; refine append_str _ rfl _ _ rfl w.heap.size _ T.b rfl b2 s rfl (by rw [HRA.out.2]; omega) hb2 ?_; intro v3 w3 hr3 hg3; have hb3 := Nat.le_trans hb2 hg3.size)
                    | (at_builtin; refine append_byteG _ rfl _ _ rfl w.heap.size _ _ rfl hr3 0 rfl (by rw [List.length_append, bts_len, HRA.out.2]; omega) hb3 ?_; intro v4 w4 hr4 hg4; obtain ⟨g4, cap4, hv4, _, _, _⟩ := hr4.lies (by rw [List.length_append]; exact Nat.le_add_left 1 _); rw [List.length_append, List.length_append, bts_len, HRA.out.2, List.length_singleton, Nat.add_assoc, HL2.out] at hv4; subst hv4; have RA4 := (HRA.out.1.fresh HHS.out HNO.out hr1 hs1 (by rw [HRA.out.2]; exact hr2) hs2 hr3 hg3 hr4 hg4); rw [HRA.out.2] at RA4; have cg4 : w4.cell? ⟨g2, m, none⟩ = some (.int .i64 (L : Int)) := by (rw [RA4.g.cell (i := m) (by rw [List.length_append, HRA.out.1.ri.len, hNL]; exact Nat.lt_succ_self m)]; congr 2; rw [← hNL, ← HRA.out.1.ri.len]; exact getD_snoc Bg _)))
                  go_ret3
                  rw [HM2.out]
                  exact ⟨rfl, RA4.bel⟩
                · have HE : Hid (strF l T0 [] = strF (l.drop (k + 1)) (T.put s) (A ++ [(L : Int)])) := ⟨by rw [HF.out, HFF.out, if_neg hbig]⟩
                  go_wp2_with (first
                    | (go_at_call 23; refine HC.out.mono ?_; rintro e w' ⟨rfl, hw'⟩; subst w')
                    | (at_builtin; refine append_name _ rfl _ _ rfl w.heap.size _ N rfl HRA.out.1.n s rfl (by rw [hNL]; omega) hbs ?_; intro v1 w1 hr1 hs1; obtain ⟨a1, c1, hv1, _, _, _, _⟩ := hr1.any; rw [List.length_append, hNL, List.length_singleton] at hv1; subst hv1; have gg1 : OwnI w1 w.heap.size _ Bg := (hs1.keep HRA.out.1.g (own_apart' (by decide) HRA.out.1.n HRA.out.1.g)).1; have b1 : Own w1 w.heap.size _ T.b := (hs1.keep HRA.out.1.b (own_apart' (by decide) HRA.out.1.n HRA.out.1.b)).1; have hb1 := Nat.le_trans hbs hs1.turn.size)
                    | (at_builtin; have _t := tk2; refine append_int _ rfl _ _ rfl w.heap.size _ Bg rfl gg1 L rfl (by rw [HRA.out.1.ri.len, hNL]; omega) hb1 ?_; intro v2 w2 hr2 hs2; obtain ⟨g2, c2, hv2, _, _, _⟩ := hr2.lies (by simp); rw [List.length_append, HRA.out.1.ri.len, hNL, List.length_singleton] at hv2; subst hv2; have b2 : Own w2 w.heap.size _ T.b := (hs2.keep b1 (own_apart' (by decide) gg1 b1)).1; have hb2 := Nat.le_trans hb1 hs2.turn.size; have hcx2 := HCC.out w2 ((HRA.out.1.bel.trans (hs1.below HRA.out.1.n HRA.out.1.bel.size)).trans (hs2.below gg1 hb1)); clear tk2 _t)
                    | (at_builtin; refine append_str _ rfl _ _ rfl w.heap.size _ T.b rfl b2 s rfl (by rw [HRA.out.2]; omega) hb2 ?_; intro v3 w3 hr3 hg3; have hb3 := Nat.le_trans hb2 hg3.size)
                    | (at_builtin; refine append_byteG _ rfl _ _ rfl w.heap.size _ _ rfl hr3 0 rfl (by rw [List.length_append, bts_len, HRA.out.2]; omega) hb3 ?_; intro v4 w4 hr4 hg4; obtain ⟨g4, cap4, hv4, _, _, _⟩ := hr4.lies (by rw [List.length_append]; exact Nat.le_add_left 1 _); rw [List.length_append, List.length_append, bts_len, HRA.out.2, List.length_singleton, Nat.add_assoc, HL2.out] at hv4; subst hv4; have RA4 := (HRA.out.1.fresh HHS.out HNO.out hr1 hs1 (by rw [HRA.out.2]; exact hr2) hs2 hr3 hg3 hr4 hg4); rw [HRA.out.2] at RA4; have cg4 : w4.cell? ⟨g2, m, none⟩ = some (.int .i64 (L : Int)) := by (rw [RA4.g.cell (i := m) (by rw [List.length_append, HRA.out.1.ri.len, hNL]; exact Nat.lt_succ_self m)]; congr 2; rw [← hNL, ← HRA.out.1.ri.len]; exact getD_snoc Bg _))
                    | (at_builtin; refine append_int _ rfl _ _ rfl w.heap.size _ A rfl RA4.a L rfl (by omega) RA4.bel.size ?_; intro v5 w5 hr5 hs5))
                  go_roundw
                  case rel => exact ⟨k + 1, T.put s, A ++ [(L : Int)], N ++ [s], Bg ++ [(L : Int)], g4, cap4, L2, m + 1, a1, c1, _, c2, hlt, by go_num, rfl, rfl, rfl, by omega, by omega, by omega, by simp [hA], ⟨RA4.place hr5 hs5, HPL.out⟩, HE⟩
                  case measure => simp [intOf]; omega
          · obtain rfl : k = l.length := by omega
            have hMM : M = .ok (T.b, A) := by
              rw [HMM.out]
              unfold SM
              rw [HF.out, List.drop_of_length_le (Nat.le_refl _)]; rfl
            have HM2 : Hid _ := ⟨hMM⟩
            clear hMM
            go_wp2
            go_ret3
            rw [HM2.out]
            exact ⟨_, _, rfl, HRA.out.1.b, HRA.out.1.a, HRA.out.1.bel⟩
      · have hM : M = .error 6 := by rw [← HM.out]; exact strM_long hq1 hq2.symm
        have HMM : Hid _ := ⟨hM⟩
        clear hM hq1 hq2
        go_wp2
        go_ret3
        rw [HMM.out]
        exact ⟨rfl, Below.refl _ _⟩
end Go.Proofs.YtpdcbokcoaienaaDoor
