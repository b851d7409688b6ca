/- The contracts of newTable and place. -/
import Derived.Test.YtpdcbokcoaienaaDoorSTable
namespace Go.Proofs.YtpdcbokcoaienaaDoor
open Go.ChangeShapes Go.WideShapes Go.ChangeAt Go.RowKit Go.Maps
set_option linter.unusedVariables false
set_option linter.unusedSimpArgs false

theorem zero3 (w : World) : (zeroValue 3).run Tryd.prog w = .ok (.int .i64 0) w := by kernel_rfl

theorem place_in (T : TB) (base tp mb : Nat) (vb : Value) (s : ByteArray) (p : Int) (w : World) (h : TA w base tp vb mb T) (hs : s.size ≤ maxLen) (hp : T.m s = some p) :
    Calls Tryd.prog 41 #[.pointer (some ⟨tp, 0, none⟩), .string s] w fun e w' => e = .returned (.int .i64 p) ∧ w' = w := by
  obtain ⟨n, D, hown, hn, hi⟩ := h.map
  have c1 := h.mcell
  obtain ⟨hq, hu⟩ := hi.at' s
  rw [hp] at hq hu
  simp only [Option.isSome_some, Option.getD_some] at hq hu
  have HO : Hid (w.ownsMap Tryd.prog 9 RV mb n D) := ⟨hown⟩
  have HQ : Hid (has D (kl s) = true) := ⟨hq⟩
  have HU : Hid (D.atKey (kl s) (.held (.int .i64 0)) = .held (.int .i64 p)) := ⟨hu⟩
  have HS : Hid (s.size ≤ maxLen) := ⟨hs⟩
  clear hown hn hi hq hu h hp hs
  go_enter Tryd.func41, Tryd.ntmps41
  go_wp2_with (at_lookup; refine wpList_look_held rfl _ _ 49 rfl 3 Tryd.underlying49 (zero3 _) mb n D rfl HO.out s rfl HS.out true (.int .i64 p) HQ.out HU.out ?_)
  go_ret
  exact ⟨rfl, rfl⟩

theorem make_map (w : World) : (Instr.makeMap 49 none).run Tryd.prog w = .ok (.map (some w.heap.size)) (w.alloc (.map #[] 0)) := by kernel_rfl

theorem heap_last (w : World) (o : Obj) : (w.alloc o).heap[w.heap.size]? = some o := by
  show (w.heap.push o)[w.heap.size]? = _
  simp

theorem newTable_any (w : World) :
    Calls Tryd.prog 40 #[] w fun e w' => ∃ tp vb mb, e = .returned (.pointer (some ⟨tp, 0, none⟩)) ∧ TA w' w.heap.size tp vb mb T0 ∧ Below w.heap.size w w' := by
  have hm := make_map
  have O1 : (((w.alloc (.cells #[.int .u8 0] 5)).alloc (.map #[] 0)).ownsMap Tryd.prog 9 RV (w.heap.size + 1) 0 (.map [])) := by
    have := World.ownsMap_made (w.alloc (.cells #[.int .u8 0] 5)) Tryd.prog 9 RV
    simpa using this
  have O2 : Own ((w.alloc (.cells #[.int .u8 0] 5)).alloc (.map #[] 0)) w.heap.size (.slice (some ⟨w.heap.size, 0, none⟩) 1 1) [0] := by
    have : Own (w.alloc (.cells #[.int .u8 0] 5)) w.heap.size (.slice (some ⟨w.heap.size, 0, none⟩) 1 1) [0] := by
      refine ⟨rfl, .inr ⟨w.heap.size, 1, #[.int .u8 0], rfl, Nat.le_refl _, ?_, Nat.le_refl _, by unfold maxLen; omega, rfl, rfl⟩⟩
      show (w.heap.push _)[w.heap.size]? = _
      simp
    exact World.ownsRow.alloc this _
  have HO1 : Hid _ := ⟨O1⟩
  have HO2 : Hid _ := ⟨O2⟩
  have HB : Hid (Below w.heap.size w ((w.alloc (.cells #[.int .u8 0] 5)).alloc (.map #[] 0))) := ⟨((Below.refl _ _).alloc (Nat.le_refl _) _).alloc (by simp) _⟩
  clear O1 O2
  go_enter Tryd.func40, Tryd.ntmps40
  go_wp2_with (with_reducible refine wpList_insert_own _ rfl _ _ _ 49 rfl 9 3 law9 Tryd.underlying49 RV (w.heap.size + 1) 0 _ ?_ HO1.out (by unfold maxLen; omega) (.string ByteArray.empty) (.int .i64 0) (kl ByteArray.empty) ?_ ?_ (key9 (by decide)) (.held (.int .i64 0)) [] rfl ?_)
  case refine_1 => rfl
  case refine_2 => rfl
  case refine_3 => rfl
  intro w1 hown1 hg1
  go_wp2
  go_ret
  have hz := hg1.size
  have hs : w.heap.size + 2 ≤ w1.heap.size := by simpa using hz
  refine ⟨w1.heap.size, _, w.heap.size + 1, rfl, ⟨heap_last w1 _, by omega, by omega, ?_, 1, _, hown1.alloc _, by simp [T0], Inv.none.put _ _⟩, ?_⟩
  · exact World.ownsRow.alloc (World.ownsRow.kept HO2.out hg1 (.inr (by simp [Value.ownBlock]))) _
  · exact (HB.out.grown hg1 (by simp; omega) (fun k hk => by cases hk; omega)).alloc (by omega) _

/-- What place leaves where the name was not there. -/
theorem place_done {T : TB} {base tp mb : Nat} {vb v2 v3 : Value} {s : ByteArray} {w w1 w2 w3 : World} (h : TA w base tp vb mb T) (hs : s.size ≤ maxLen) (hp : T.m s = none) {L : Nat} (hL : T.b.length = L) (n : Nat) (D : DataW Value) (hn : n ≤ L) (hi : Inv D T.m)
    (hown1 : w1.ownsMap Tryd.prog 9 RV mb (n + 1) (D.put (kl s) (.held (.int .i64 L)))) (hg1 : w.grownBy w1 (some mb))
    (own2 : Own w2 base v2 (T.b ++ bts s)) (hg2 : w1.grownBy w2 vb.ownBlock) (own3 : Own w3 base v3 (T.b ++ bts s ++ [0])) (hg3 : (w2.alloc (.cells #[.int .u8 0] 5)).grownBy w3 v2.ownBlock) :
    w3.cell? ⟨tp, 0, none⟩ = some vb ∧ w3.frozen? ⟨tp, 0, none⟩ = false ∧ TA (w3.setCell ⟨tp, 0, none⟩ v3) base tp v3 mb (T.put s) ∧ Turn (TS w base tp mb) w (w3.setCell ⟨tp, 0, none⟩ v3) := by
  subst hL
  have k1 : w1.heap[tp]? = some (.cells #[vb, .map (some mb)] 76) := by
    rw [hg1.block tp h.lt (by simpa using h.ne)]; exact h.cells
  have e1 : some mb ≠ vb.ownBlock := by
    obtain ⟨n', D', hm, _⟩ := h.map
    exact own_nm h.own hm
  have e0 : some tp ≠ vb.ownBlock := own_ne h.own h.cells
  have k2 : w2.heap[tp]? = some (.cells #[vb, .map (some mb)] 76) := by
    rw [hg2.block tp (Array.getElem?_eq_some_iff.1 k1).1 e0]; exact k1
  have m2 := hown1.kept hg2 e1
  have k2' : (w2.alloc (.cells #[.int .u8 0] 5)).heap[tp]? = some (.cells #[vb, .map (some mb)] 76) := by
    rw [Below.heap_alloc _ _ _ (Array.getElem?_eq_some_iff.1 k2).1]; exact k2
  have k3 : w3.heap[tp]? = some (.cells #[vb, .map (some mb)] 76) := by
    rw [hg3.block tp (Array.getElem?_eq_some_iff.1 k2').1 (own_ne own2 k2)]; exact k2'
  have m3 := (m2.alloc (.cells #[.int .u8 0] 5)).kept hg3 (own_nm own2 m2)
  have hput : T.put s = ⟨T.b ++ bts s ++ [0], mput T.m s T.b.length⟩ := by unfold TB.put; rw [hp]; rfl
  refine ⟨by simp [World.cell?, k3], by simp [World.frozen?, k3], ?_, ?_⟩
  · rw [hput]
    refine ⟨?_, h.lo, h.mlo, ?_, n + 1, _, m3.setCell (Ne.symm h.ne) _, by simp; omega, hi.put s _⟩
    · simp [World.setCell, Array.getElem?_modify, k3]
    · refine (Turn.setCell (S := fun k => k = tp) (Turn.refl _ w3) ⟨tp, 0, none⟩ rfl v3).row own3 (fun k hk e => ?_)
      subst e
      exact own_ne own3 k3 hk.symm
  · refine Turn.setCell ?_ _ (.inl rfl) _
    have t2 : Turn (TS w base tp mb) w w2 := ((Turn.refl _ w).grown hg1 (fun k _ e => .inr (.inl (by cases e; rfl)))).grown hg2 (fun k hk e => .inr (.inr (own_five h.own e)))
    refine (t2.alloc _).grown hg3 (fun k hk e => ?_)
    obtain ⟨hb, cur, fz, hc⟩ := own_five own2 e
    by_cases hS : TS w base tp mb k
    · exact hS
    · exact .inr (.inr ⟨hb, cur, fz, by rw [← t2.block k hk hS]; exact hc⟩)

theorem place_new (T : TB) (base tp mb : Nat) (vb : Value) (s : ByteArray) (w : World) (h : TA w base tp vb mb T) (hs : s.size ≤ 1048576) (hp : T.m s = none) (h1 : 1 ≤ T.b.length) (hT : T.b.length ≤ 1048576) (hbase : base ≤ w.heap.size) :
    Calls Tryd.prog 41 #[.pointer (some ⟨tp, 0, none⟩), .string s] w fun e w' => e = .returned (.int .i64 T.b.length) ∧ ∃ vb', TA w' base tp vb' mb (T.put s) ∧ Turn (TS w base tp mb) w w' := by
  obtain ⟨n, D, hown, hn, hi⟩ := h.map
  have c0 := h.vcell
  have c1 := h.mcell
  obtain ⟨hq, hu⟩ := hi.at' s
  rw [hp] at hq hu
  simp only [Option.isSome_none, Option.getD_none] at hq hu
  have HO : Hid (w.ownsMap Tryd.prog 9 RV mb n D) := ⟨hown⟩
  have HQ : Hid (has D (kl s) = false) := ⟨hq⟩
  have HU : Hid (D.atKey (kl s) (.held (.int .i64 0)) = .held (.int .i64 0)) := ⟨hu⟩
  have HI : Hid (Inv D T.m) := ⟨hi⟩
  have HN : Hid (n ≤ T.b.length) := ⟨hn⟩
  have HT : Hid (TA w base tp vb mb T) := ⟨h⟩
  have HP : Hid (T.m s = none) := ⟨hp⟩
  obtain ⟨g, cap, hv, _, _, _⟩ := h.own.lies h1
  have hm : s.size ≤ maxLen := by unfold maxLen; omega
  have HB : Hid (base ≤ w.heap.size) := ⟨hbase⟩
  have HK : Hid (∀ w1, w.grownBy w1 (some mb) → w1.cell? ⟨tp, 0, none⟩ = some vb ∧ Own w1 base vb T.b ∧ base ≤ w1.heap.size) := ⟨fun w1 hg => ⟨hg.cell h.vcell (by simpa using h.ne), World.ownsRow.kept h.own hg (.inr (Ne.symm (own_nm h.own hown))), Nat.le_trans hbase hg.size⟩⟩
  clear hown hn hi hq hu h hp hbase
  subst hv
  have tk : True := trivial
  generalize hLL : T.b.length = L at *
  have HL : Hid (T.b.length = L) := ⟨hLL⟩
  clear hLL
  go_enter Tryd.func41, Tryd.ntmps41
  go_wp2_with (first
    | (at_lookup; refine wpList_look_held rfl _ _ 49 rfl 3 Tryd.underlying49 (zero3 _) mb n D rfl HO.out s rfl hm false (.int .i64 0) HQ.out HU.out ?_)
    | (at_mapUpdate; refine wpList_mapUpdate_own _ rfl _ _ _ 49 rfl 9 3 law9 Tryd.underlying49 RV mb n _ rfl HO.out (by have := HN.out; have := HL.out; unfold maxLen; omega) (.string s) (.int .i64 L) (kl s) rfl rfl (key9 hm) (.held (.int .i64 L)) [] rfl ?_; intro w1 hown1 hg1; obtain ⟨c2, own1, hb1⟩ := HK.out w1 hg1)
    | (at_builtin; have _t := tk; refine append_str _ rfl _ _ rfl base _ T.b rfl own1 s rfl (by rw [HL.out]; omega) hb1 ?_; intro v2 w2 own2 hg2; clear tk _t)
    | (at_builtin; refine append_byteG _ rfl _ _ rfl base _ _ rfl own2 0 rfl (by rw [List.length_append, HL.out, bts_len]; omega) (Nat.le_trans hb1 hg2.size) ?_; intro v3 w3 own3 hg3; obtain ⟨g3, cap3, hv3, _, _, _⟩ := own3.lies (by rw [List.length_append]; exact Nat.le_add_left 1 _); generalize hz3 : (T.b ++ bts s ++ [0]).length = z3 at hv3; clear hz3; subst hv3; obtain ⟨c3, f3, hTA, hTu⟩ := place_done HT.out hm HP.out HL.out n D HN.out HI.out hown1 hg1 own2 hg2 own3 hg3))
  go_ret
  exact ⟨rfl, _, hTA, hTu⟩
end Go.Proofs.YtpdcbokcoaienaaDoor
