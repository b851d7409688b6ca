/- The document's Lines and All. -/
import Derived.Test.YthdkbjifjmhgoaaDoorLxLine
namespace Go.Proofs.YthdkbjifjmhgoaaDoor
open Go.ChangeShapes Go.WideShapes Go.ChangeAt Go.RowKit
set_option linter.unusedVariables false
set_option linter.unusedSimpArgs false

/-- Strings that lie in memory. -/
def Strs (w : World) (ao : Option Addr) (l : List ByteArray) : Prop :=
  l = [] ∨ ∃ b off, ao = some ⟨b, off, none⟩ ∧ ∀ i, i < l.length → w.cell? ⟨b, off + i, none⟩ = some (.string (l.getD i ByteArray.empty))
theorem Strs.below {w w' : World} {ao : Option Addr} {l : List ByteArray} (h : Strs w ao l) {B : Nat} (hb : Below B w w') (hB : w.heap.size ≤ B) : Strs w' ao l := by
  rcases h with h | ⟨b, off, e, h⟩
  · exact .inl h
  · refine .inr ⟨b, off, e, fun i hi => ?_⟩
    have h1 := h i hi
    rw [hb.cell (p := ⟨b, off + i, none⟩) (Nat.lt_of_lt_of_le (World.block_lt_of_cell? w ⟨b, off + i, none⟩ h1) hB)]
    exact h1
/-- A row of strings of the call's own. -/
def OwnS (w : World) (base : Nat) (v : Value) (l : List ByteArray) : Prop := w.ownsRow base 9 1 v l.length (l.map Value.string)
theorem OwnS.nil (w : World) (base : Nat) : OwnS w base (.slice none 0 0) [] := World.ownsRow_nil _ _ _ _
theorem OwnS.any {w : World} {base : Nat} {v : Value} {l : List ByteArray} (h : OwnS w base v l) : ∃ ao cap, v = .slice ao l.length cap ∧ Strs w ao l := by
  rcases h.2 with ⟨hv, hn⟩ | ⟨g, cap, cur, hv, _, hg, h1, h2, _⟩
  · obtain rfl : l = [] := List.eq_nil_of_length_eq_zero hn
    exact ⟨none, 0, hv, .inl rfl⟩
  · refine ⟨_, cap, hv, .inr ⟨g, 0, rfl, fun i hi => ?_⟩⟩
    subst hv
    have := h.cellAt i (by omega)
    rw [Nat.zero_add, this]
    simp [hi]
theorem infoS : (Tryd.prog.info? 9).map (fun i => (i.zero, i.size, i.bytes)) = some (some (.string ⟨#[]⟩), 1, 16) := by kernel_rfl
theorem append_s {ops : Array Oper} {rest : List Oper} {o : Oper} {a : Act} {Q : Exit → Act → World → Prop} (w : World) (hgd : o.guard = none) (s x : Operand)
    (ho : o.op = .call { callee := .builtin .append, args := #[s, x], argTypes := #[42, 42] })
    (base : Nat) (v : Value) (l : List ByteArray) (hs : a.eval s = v) (hown : OwnS w base v l) (b : ByteArray) (hx : a.eval x = .slice (some ⟨w.heap.size, 0, none⟩) 1 1)
    (hn : l.length + 1 ≤ 8796093022208) (hbase : base ≤ w.heap.size)
    (h : ∀ v' w', OwnS w' base v' (l ++ [b]) → Below base w w' → wpList Tryd.prog ops Q rest (a.put o.dst v') w') :
    wpList Tryd.prog ops Q (o :: rest) a (w.alloc (.cells #[.string b] 9)) := by
  obtain ⟨i0, hi, hz0, hz1, hz2⟩ := info_parts infoS
  refine wpList_append_own _ hgd s x 42 ho base 9 i0 (.string ⟨#[]⟩) 1 16 Tryd.underlying42 hi hz0 hz1 hz2 rfl (by decide) v l.length _ hs (World.ownsRow.alloc hown _) ⟨w.heap.size, 0, none⟩ 1 1 [.string b] hx rfl ?_ ?_ (by unfold maxLen; omega) (by omega) (by simp; omega) ?_
  · intro j u hj
    match j, hj with
    | 0, hj => simp at hj; subst hj; simp [Addr.add]
  · intro u hu; simp at hu; subst hu; rfl
  · intro v' w' hown' hgrow _
    refine h v' w' ?_ (((Below.refl base w).alloc hbase _).grown hgrow (by simp; omega) (own_block hown))
    unfold OwnS
    simpa using hown'

theorem OwnT.lower {w : World} {base base' : Nat} {v : Value} {l : List TL} (h : OwnT w base v l) (hb : base' ≤ base) : OwnT w base' v l := by
  rcases h with ⟨h1, h2⟩
  refine ⟨h1, ?_⟩
  rcases h2 with h | ⟨g, cap, cur, h3, h4, h5⟩
  · exact .inl h
  · exact .inr ⟨g, cap, cur, h3, Nat.le_trans hb h4, h5⟩
/-- So far: these lines, and the rest from i on, behind acc. -/
theorem lines_all (l : List UInt8) : ∀ (acc : List UInt8), (linesF l acc).length ≤ l.length + 1 ∧ ∀ s ∈ linesF l acc, s.length ≤ acc.length + l.length := by
  induction l with
  | nil =>
    intro acc
    unfold linesF
    split
    · simp
    · simp
  | cons c r ih =>
    intro acc
    unfold linesF
    split
    · have := ih []
      refine ⟨by simp; omega, fun s hs => ?_⟩
      rcases List.mem_cons.1 hs with rfl | hs
      · simp
      · have := this.2 s hs
        simp at this ⊢; omega
    · have := ih (acc ++ [c])
      refine ⟨by simp; omega, fun s hs => ?_⟩
      have := this.2 s hs
      simp at this ⊢; omega

theorem sub_snoc (s : ByteArray) (f i : Nat) (hf : f ≤ i) (hi : i < s.size) : ((lo s).drop f).take (i + 1 - f) = ((lo s).drop f).take (i - f) ++ [s[i]] := by
  have h' : i - f < ((lo s).drop f).length := by rw [List.length_drop, lo_len]; omega
  rw [show i + 1 - f = (i - f) + 1 by omega, List.take_succ_eq_append_getElem h', List.getElem_drop]
  congr 2
  have : f + (i - f) = i := by omega
  simp only [this]; rfl

set_option maxHeartbeats 4000000 in
set_option maxRecDepth 10000 in
theorem rlines_any (s : ByteArray) (w : World) (hl : s.size ≤ 8796093022206) :
    Calls Tryd.prog 19 #[.string s] w fun e w' => ∃ v, e = .returned v ∧ OwnS w' w.heap.size v ((linesM (lo s)).map St) ∧ Below w.heap.size w w' := by
  obtain ⟨L, hL⟩ : ∃ L, linesM (lo s) = L := ⟨_, rfl⟩
  have HL : Hid (L = [] ++ linesF ((lo s).drop 0) (((lo s).drop 0).take (0 - 0))) := ⟨by rw [← hL]; simp [linesM]⟩
  have hn := (lines_all (lo s) []).1
  rw [hL]
  rw [show linesF (lo s) [] = L from hL, lo_len] at hn
  clear hL
  go_enter Tryd.func19, Tryd.ntmps19
  go_wp2
  go_loopw [5, 4, 3] (fun i f v wr => ∃ (j g : Nat) (ls : List (List UInt8)), i = .int .i64 j ∧ f = .int .i64 g ∧ j ≤ s.size ∧ g ≤ j ∧ Hid (OwnS wr w.heap.size v (ls.map St) ∧ Below w.heap.size w wr ∧ L = ls ++ linesF ((lo s).drop j) (((lo s).drop g).take (j - g)))) (fun i _ _ _ => s.size - (intOf i).toNat)
  case atStart => exact ⟨0, 0, [], rfl, rfl, by omega, by omega, ⟨OwnS.nil _ _, Below.refl _ _, HL.out⟩⟩
  case round =>
    obtain ⟨j, g, ls, rfl, rfl, hj, hg, HW⟩ := hrel
    obtain ⟨O1, B1, Q1⟩ := HW.out
    have hbs := B1.size
    have HB1 : Hid _ := ⟨B1⟩
    have HO1 : Hid _ := ⟨O1⟩
    have hgi : (g : Int) ≤ (j : Int) := by omega
    have hji : (j : Int) ≤ (s.size : Int) := by omega
    have hll : ls.length ≤ L.length := by rw [Q1, List.length_append]; omega
    clear O1 B1 HW
    by_cases hlt : j < s.size
    · have hlti : (j : Int) < (s.size : Int) := by omega
      rw [lo_drop s j hlt] at Q1
      unfold linesF at Q1
      by_cases c10 : s[j] = 10
      · have q10 : ((s[j].toNat : Int) == 10) = true := by rw [c10]; rfl
        rw [if_pos c10] at Q1
        have hll2 : ls.length + 1 ≤ L.length := by rw [Q1, List.length_append, List.length_cons]; omega
        have HQ : Hid (L = (ls ++ [((lo s).drop g).take (j - g)]) ++ linesF ((lo s).drop (j + 1)) (((lo s).drop (j + 1)).take (j + 1 - (j + 1)))) := ⟨by rw [Q1]; simp⟩
        have HS : Hid (s.extract g j = St (((lo s).drop g).take (j - g))) := ⟨sub_St s g j⟩
        clear Q1 c10
        go_wp2_with (at_builtin; refine append_s _ rfl _ _ rfl w.heap.size _ (ls.map St) rfl HO1.out (s.extract g j) rfl (by rw [List.length_map]; omega) hbs ?_; intro v2 w2 ho2 hb2)
        go_roundw
        case rel => exact ⟨j + 1, j + 1, ls ++ [((lo s).drop g).take (j - g)], by go_num, by go_num, hlt, by omega, ⟨by rw [List.map_append]; rw [HS.out] at ho2; exact ho2, HB1.out.trans hb2, HQ.out⟩⟩
        case measure => simp [intOf]; omega
      · have q10 : ((s[j].toNat : Int) == 10) = false := by rw [beq_eq_false_iff_ne]; intro h; exact c10 (UInt8.toNat_inj.1 (by show s[j].toNat = 10; omega))
        rw [if_neg c10] at Q1
        have HQ : Hid (L = ls ++ linesF ((lo s).drop (j + 1)) (((lo s).drop g).take (j + 1 - g))) := ⟨by rw [Q1, sub_snoc s g j hg hlt]⟩
        clear Q1 c10
        go_wp2
        go_roundw
        case rel => exact ⟨j + 1, g, ls, by go_num, rfl, hlt, by omega, ⟨HO1.out, HB1.out, HQ.out⟩⟩
        case measure => simp [intOf]; omega
    · obtain rfl : j = s.size := by omega
      rw [lo_end] at Q1
      unfold linesF at Q1
      by_cases hgs : g < s.size
      · have hgsi : (g : Int) < (s.size : Int) := by omega
        have hne : ¬ ((lo s).drop g).take (s.size - g) = [] := fun h => by
          have := congrArg List.length h
          rw [List.length_take, List.length_drop, lo_len] at this
          simp at this; omega
        rw [if_neg hne] at Q1
        have hll2 : ls.length + 1 ≤ L.length := by rw [Q1, List.length_append]; simp
        have HQ : Hid (L = ls ++ [((lo s).drop g).take (s.size - g)]) := ⟨Q1⟩
        have HS : Hid (s.extract g s.size = St (((lo s).drop g).take (s.size - g))) := ⟨sub_St s g s.size⟩
        clear Q1 hne
        go_wp2_with (at_builtin; refine append_s _ rfl _ _ rfl w.heap.size _ (ls.map St) rfl HO1.out (s.extract g s.size) rfl (by rw [List.length_map]; omega) hbs ?_; intro v2 w2 ho2 hb2)
        go_ret
        exact ⟨_, rfl, by rw [HQ.out, List.map_append]; rw [HS.out] at ho2; exact ho2, HB1.out.trans hb2⟩
      · have hgsi : ¬ (g : Int) < (s.size : Int) := by omega
        have he : ((lo s).drop g).take (s.size - g) = [] := by rw [show s.size - g = 0 by omega]; simp
        rw [if_pos he] at Q1
        have HQ : Hid (L = ls) := ⟨by rw [Q1]; simp⟩
        clear Q1 he
        go_wp2
        go_ret
        exact ⟨_, rfl, by rw [HQ.out]; exact HO1.out, HB1.out⟩

theorem lineF_len : ∀ (n : Nat) (l : List UInt8) (ts : List Tok), lineF n l = some ts → ts.length ≤ l.length
  | 0, l, ts, h => by cases h; simp
  | n + 1, [], ts, h => by cases h; simp
  | n + 1, c :: r, ts, h => by
    unfold lineF at h
    split at h
    · cases h; simp
    · split at h
      · have := lineF_len n r ts h
        simp; omega
      · split at h
        · cases h
        · rename_i t k ho
          simp only [Option.map_eq_some_iff] at h
          obtain ⟨ts', h', rfl⟩ := h
          have := lineF_len n _ ts' h'
          have hk := one_len ho
          rw [List.length_drop] at this
          simp only [List.length_cons] at this hk ⊢
          omega
theorem line_len {l : List UInt8} {ts : List Tok} (h : lineM l = some ts) : ts.length ≤ l.length + 1 := by
  unfold lineM at h
  simp only [Option.map_eq_some_iff] at h
  obtain ⟨ts', h', rfl⟩ := h
  have := lineF_len _ _ _ h'
  split
  · simp
  · simp; omega

/-- How All ends. -/
def AEnds (m : Except (Int × Int) (List TL)) (w : World) (e : Ending) (w' : World) : Prop :=
  match m with
  | .error p => e = .returned (.tuple #[.slice none 0 0, .int .i64 p.1, .int .i64 p.2]) ∧ Below w.heap.size w w'
  | .ok ts => ∃ v, e = .returned (.tuple #[v, .int .i64 0, .int .i64 0]) ∧ OwnT w' w.heap.size v ts ∧ Below w.heap.size w w'
theorem aends_err {M : Except (Int × Int) (List TL)} {k x a b : Int} (h : M = .error (k, x)) (ha : a = k) (hx : b = x) {w w' : World} (hw : Below w.heap.size w w') : AEnds M w (.returned (.tuple #[.slice none 0 0, .int .i64 a, .int .i64 b])) w' := by
  subst h; subst ha; subst hx; exact ⟨rfl, hw⟩

def CFar (L : List (List UInt8)) (C : Except Int (List TL)) (j : Nat) (acc : List TL) : Prop := C = cutF (L.drop j) (j + 1) acc

set_option maxHeartbeats 4000000 in
set_option maxRecDepth 10000 in
theorem rall_any (s : ByteArray) (w : World) :
    Calls Tryd.prog 10 #[.string s] w fun e w' => AEnds (allM (lo s)) w e w' := by
  obtain ⟨M, hM⟩ : ∃ M, allM (lo s) = M := ⟨_, rfl⟩
  have hA := hM
  unfold allM at hA
  rw [lo_len] at hA
  rw [hM]
  clear hM
  by_cases hl : 65536 < s.size
  · rw [if_pos hl] at hA
    have hn : Hid (M = .error (0, 6)) := ⟨hA.symm⟩
    have hli : (65536 : Int) < (s.size : Int) := by omega
    clear hA
    go_enter Tryd.func10, Tryd.ntmps10
    go_wp2
    go_ret3
    exact aends_err hn.out rfl rfl (Below.refl _ _)
  · rw [if_neg hl] at hA
    have hli : ¬ (65536 : Int) < (s.size : Int) := by omega
    have HL : Hid (Calls Tryd.prog 19 #[.string s] w fun e w' => ∃ v, e = .returned v ∧ OwnS w' w.heap.size v ((linesM (lo s)).map St) ∧ Below w.heap.size w w') := ⟨rlines_any s w (by omega)⟩
    have HS : Hid (∀ t ∈ linesM (lo s), t.length ≤ 65536) := ⟨fun t ht => by
      have := (lines_all (lo s) []).2 t ht
      rw [lo_len] at this
      simp at this; omega⟩
    generalize linesM (lo s) = L at *
    by_cases h4 : 4000 < L.length
    · rw [if_pos h4] at hA
      have hn : Hid (M = .error (0, 6)) := ⟨hA.symm⟩
      have h4i : (4000 : Int) < ((L.map St).length : Int) := by rw [List.length_map]; omega
      clear hA
      go_enter Tryd.func10, Tryd.ntmps10
      go_wp2_with (go_at_call 19; (with_reducible refine HL.out.mono ?_); rintro e w1 ⟨v1, rfl, ho1, hb1⟩; obtain ⟨ao, cp, hv1, _⟩ := OwnS.any ho1; subst hv1)
      go_ret3
      exact aends_err hn.out rfl rfl hb1
    · rw [if_neg h4] at hA
      have h4i : ¬ (4000 : Int) < ((L.map St).length : Int) := by rw [List.length_map]; omega
      obtain ⟨C, hC⟩ : ∃ C, cutF L 1 [] = C := ⟨_, rfl⟩
      rw [hC] at hA
      have HA : Hid _ := ⟨hA⟩
      have HC : Hid (CFar L C 0 []) := ⟨by unfold CFar; rw [List.drop_zero]; exact hC.symm⟩
      have hml : (L.map St).length = L.length := List.length_map _
      clear hA hC
      go_enter Tryd.func10, Tryd.ntmps10
      go_wp2_with (go_at_call 19; (with_reducible refine HL.out.mono ?_); rintro e w1 ⟨v1, rfl, ho1, hb1⟩; obtain ⟨ao, cp, hv1, hst1⟩ := OwnS.any ho1; subst hv1; have HST : Hid _ := ⟨hst1⟩; have Hb1 : Hid _ := ⟨hb1⟩; clear ho1 hst1 hb1)
      go_loopw [7, 6] (fun i v wr => ∃ (j : Nat) (acc : List TL), i = .int .i64 j ∧ j ≤ L.length ∧ Hid (OwnT wr w1.heap.size v acc ∧ Below w1.heap.size w1 wr ∧ acc.length ≤ j * 65537 ∧ CFar L C j acc)) (fun i _ _ => L.length - (intOf i).toNat)
      case atStart => exact ⟨0, [], rfl, by omega, ⟨OwnT.nil _ _, Below.refl _ _, by simp, HC.out⟩⟩
      case round =>
        obtain ⟨j, acc, rfl, hj, HW⟩ := hrel
        obtain ⟨O1, B1, ha, Q1⟩ := HW.out
        have hbs := B1.size
        have HB1 : Hid _ := ⟨B1⟩
        have HO1 : Hid _ := ⟨O1⟩
        by_cases hlt : j < L.length
        · have hlti : (j : Int) < ((L.map St).length : Int) := by rw [hml]; omega
          have hj0 : (0 : Int) ≤ (j : Int) := by omega
          obtain ⟨bs, of, rfl, hcell⟩ : ∃ b off, ao = some ⟨b, off, none⟩ ∧ wr.cell? ⟨b, off + j, none⟩ = some (.string (St L[j])) := by
            rcases HST.out.below B1 (Nat.le_refl _) with h | ⟨b, off, e, h⟩
            · have : (L.map St).length = 0 := by rw [h]; rfl
              omega
            · refine ⟨b, off, e, ?_⟩
              rw [h j (by rw [hml]; exact hlt)]
              simp [hlt]
          unfold CFar at Q1
          rw [List.drop_eq_getElem_cons hlt] at Q1
          unfold cutF at Q1
          have hLs := HS.out L[j] (List.getElem_mem hlt)
          have HN : Hid (∀ w, Calls Tryd.prog 23 #[.string (St L[j]), .int .i64 ((j : Int) + 1)] w fun e w' => LEnds (lineM L[j]) ((j : Int) + 1) w e w') := ⟨fun w => rline_any (St L[j]) _ w (by rw [St_size]; exact hLs)⟩
          have hw1 : IntKind.i64.wrap ((j : Int) + 1) = (j : Int) + 1 := by rw [IntKind.wrap_i64]; omega
          clear HW O1 B1
          generalize L[j] = x at *
          cases hx : lineM x with
          | none =>
            rw [hx] at Q1 HN
            have hn : Hid (M = .error ((j : Int) + 1, 100)) := ⟨by rw [← HA.out, Q1]; rfl⟩
            clear Q1 hx
            go_wp2_with (go_at_call 23; (with_reducible refine (HN.out _).mono ?_); rintro e w2 ⟨rfl, hb2⟩)
            go_ret3
            exact aends_err hn.out (by first | rfl | go_num) rfl (Hb1.out.trans ((HB1.out.trans (hb2.mono HB1.out.size)).mono Hb1.out.size))
          | some ts =>
            have htl := line_len hx
            rw [hx] at Q1 HN
            obtain ⟨tk, htk⟩ : ∃ tk : List TL, (ts.map fun t => (t, (j : Int) + 1)) = tk := ⟨_, rfl⟩
            have HNN : Hid (∀ w, Calls Tryd.prog 23 #[.string (St x), .int .i64 ((j : Int) + 1)] w fun e w' => ∃ v, e = .returned (.tuple #[v, .bool true]) ∧ OwnT w' w.heap.size v tk ∧ Below w.heap.size w w') := ⟨fun w => by rw [← htk]; exact HN.out w⟩
            have htkl : tk.length ≤ 65537 := by rw [← htk, List.length_map]; omega
            have HQ : Hid (CFar L C (j + 1) (acc ++ tk)) := ⟨by rw [← htk]; exact Q1⟩
            clear Q1 hx htk HN
            go_wp2_with (first
              | (go_at_call 23; (with_reducible refine (HNN.out _).mono ?_); rintro e w2 ⟨v2, rfl, ho2, hb2⟩; obtain ⟨a2, c2, hv2, _, _, ht2, hn2⟩ := OwnT.any ho2; subst hv2; have o12 := OwnT.bel HO1.out hb2; have HO12 : Hid _ := ⟨o12⟩; have HT2 : Hid _ := ⟨ht2⟩; have HN2 : Hid _ := ⟨hn2⟩; have Hbb : Hid _ := ⟨hb2⟩; clear o12 ht2 hn2 ho2)
              | (at_builtin; refine append_toks _ rfl _ _ rfl w1.heap.size _ acc rfl HO12.out a2 c2 tk rfl HT2.out HN2.out (by omega) (Nat.le_trans hbs Hbb.out.size) ?_; intro v3 w3 ho3 hb3))
            go_roundw
            case rel => exact ⟨j + 1, acc ++ tk, by go_num, hlt, ⟨ho3, (HB1.out.trans (Hbb.out.mono HB1.out.size)).trans hb3, by rw [List.length_append]; omega, HQ.out⟩⟩
            case measure => simp [intOf]; omega
        · obtain rfl : j = L.length := by omega
          have hlti : ¬ ((L.length : Nat) : Int) < ((L.map St).length : Int) := by rw [hml]; omega
          unfold CFar at Q1
          rw [List.drop_length] at Q1
          have hn : Hid (M = .ok acc) := ⟨by rw [← HA.out, Q1]; rfl⟩
          clear HW O1 B1 Q1
          go_wp2
          go_ret3
          rw [hn.out]
          exact ⟨_, rfl, OwnT.lower HO1.out Hb1.out.size, Hb1.out.trans (HB1.out.mono Hb1.out.size)⟩
end Go.Proofs.YthdkbjifjmhgoaaDoor
