/- The program's Write of any tables. The program's Write of any tables, walked. -/
import Derived.Test.YtomboebfbipaaaaDoorEGrp
namespace Go.Proofs.YtomboebfbipaaaaDoor
open Go.ChangeShapes Go.WideShapes Go.ChangeAt Go.RowKit Go.Maps
set_option linter.unusedVariables false
set_option linter.unusedSimpArgs false

/-- A common entry's functions, one behind the other: the bytes, the places. -/
def grpM (addr enc : Int) (place : Nat) (f : List Fe) : List Int → List Int × List Int → Option (List Int × List Int)
  | [], s => some s
  | i :: is, (L, A) => match fdeM addr enc place (f.getD i.toNat Fe.zero) L with
    | none => none
    | some L' => grpM addr enc place f is (L', A.set i.toNat (L.length : Int))
/-- The first k common entries and what is theirs. -/
def runM (addr : Int) (c : List Ce) (f : List Fe) : Nat → Option (List Int × List Int)
  | 0 => some ([], List.replicate f.length 0)
  | k + 1 => match runM addr c f k with
    | none => none
    | some (L, A) => grpM addr (c.getD k Ce.zero).enc L.length f (grp f f.length k) (L ++ recB 0 (cieB (c.getD k Ce.zero).enc) (c.getD k Ce.zero).ini, A)
theorem grpM_app (addr enc : Int) (place : Nat) (f : List Fe) : ∀ (is js : List Int) (s : List Int × List Int), grpM addr enc place f (is ++ js) s = (match grpM addr enc place f is s with | none => none | some s' => grpM addr enc place f js s')
  | [], js, s => rfl
  | i :: is, js, (L, A) => by
    simp only [List.cons_append, grpM]
    cases fdeM addr enc place (f.getD i.toNat Fe.zero) L with
    | none => rfl
    | some L' => exact grpM_app addr enc place f is js _
theorem fdeM_len {addr enc : Int} {place : Nat} {x : Fe} {L L' : List Int} (h : fdeM addr enc place x L = some L') : L'.length ≤ L.length + 90000 := by
  unfold fdeM at h
  split at h
  · cases h
  · split at h
    · cases h
    · rename_i h1 h2
      have h1' : putE enc x.beg (addr + ((L.length : Int) + 4) + 4) 0 = 0 := by simpa using h1
      have h2' : putE (enc % 16) x.size 0 0 = 0 := by simpa using h2
      have b1 := (putL_len h1').2
      have b2 := (putL_len h2').2
      injection h with h
      rw [← h, List.length_append, rec_len]
      have := rec_short (putL enc x.beg (addr + ((L.length : Int) + 4) + 4) 0 ++ putL (enc % 16) x.size 0 0 ++ [0]) x.ops (by simp; omega)
      omega
theorem fdeM_ge {addr enc : Int} {place : Nat} {x : Fe} {L L' : List Int} (h : fdeM addr enc place x L = some L') : L.length ≤ L'.length := by
  unfold fdeM at h
  split at h
  · cases h
  · split at h
    · cases h
    · injection h with h
      rw [← h, List.length_append]
      omega
theorem run_none {addr : Int} {c : List Ce} {f : List Fe} {k : Nat} (h : runM addr c f k = none) : ∀ n, k ≤ n → runM addr c f n = none := by
  intro n hn
  induction n with
  | zero => rw [show k = 0 by omega] at h; exact h
  | succ n ih =>
    by_cases e : k = n + 1
    · rw [← e]; exact h
    · have := ih (by omega)
      simp only [runM, this]
theorem run_succ {addr : Int} {c : List Ce} {f : List Fe} {k : Nat} {L A : List Int} (h : runM addr c f k = some (L, A)) : runM addr c f (k + 1) = grpM addr (c.getD k Ce.zero).enc L.length f (grp f f.length k) (L ++ recB 0 (cieB (c.getD k Ce.zero).enc) (c.getD k Ce.zero).ini, A) := by
  simp only [runM, h]
/-- The end's mark. -/
def endB (en : Bool) : List Int := if en then [0, 0, 0, 0] else []
def wriT (en : Bool) : Option (List Int × List Int) → Int × List Int × List Int
  | none => (11, [], [])
  | some (L, A) => if 1048576 < (L ++ endB en).length then (6, [], []) else (0, L ++ endB en, A)
/-- Write's answer. -/
def wriR (c : List Ce) (f : List Fe) (addr : Int) (en : Bool) : Int × List Int × List Int :=
  if checkE c f ≠ 0 then (checkE c f, [], []) else if addr < 0 ∨ 576460752303423488 < addr then (11, [], [])
  else wriT en (runM addr c f c.length)
def WrEnd (r : Int × List Int × List Int) (w : World) (e : Ending) (w' : World) : Prop := ∃ v t, e = .returned (.tuple #[v, t, .int .i64 r.1]) ∧ Own w' w.heap.size v r.2.1 ∧ OwnI w' w.heap.size t r.2.2 ∧ Below w.heap.size w w'
theorem WrEnd.bad {E : Int} {w w' : World} (hb : Below w.heap.size w w') : WrEnd (E, [], []) w (.returned (.tuple #[.slice none 0 0, .slice none 0 0, .int .i64 E])) w' := ⟨_, _, rfl, Own.nil _ _, OwnI.nil _ _, hb⟩

theorem start_any (addr : Int) (w : World) : Calls Tryd.prog 38 #[.int .i64 addr] w fun e w' => e = .returned (.bool (decide (0 ≤ addr) && decide (addr ≤ 576460752303423488))) ∧ w' = w := by
  by_cases h0 : 0 ≤ addr
  · by_cases h1 : addr ≤ 576460752303423488
    · have e : (decide (0 ≤ addr) && decide (addr ≤ 576460752303423488)) = true := by simp [h0, h1]
      rw [e]
      exact start_yes addr h0 h1 w
    · have e : (decide (0 ≤ addr) && decide (addr ≤ 576460752303423488)) = false := by simp [h1]
      rw [e]
      go_enter Tryd.func38, Tryd.ntmps38
      go_wp2
      go_ret
      exact ⟨rfl, rfl⟩
  · have e : (decide (0 ≤ addr) && decide (addr ≤ 576460752303423488)) = false := by simp [h0]
    rw [e]
    go_enter Tryd.func38, Tryd.ntmps38
    go_wp2
    go_ret
    exact ⟨rfl, rfl⟩
theorem makeI (n : Nat) (hn : n ≤ 4000) (w : World) : (Instr.makeSlice 43 (.int .i64 (n : Int)) (.int .i64 (n : Int))).run Tryd.prog w = .ok (.slice (some ⟨w.heap.size, 0, none⟩) n n) (w.alloc (.cells (Array.replicate n (Value.int .i64 0)) 3)) := by
  rw [run_make_row' 43 3 (.int .i64 0) 8 Tryd.underlying43 info3 rfl .i64 .i64 n (by omega) (by omega) w]
  congr 2
  congr 1
  apply Array.ext
  · simp [madeCells]
  · intro i h1 h2
    simp [madeCells, Nat.mod_one, Value.cells]
theorem ix_fde (b off n c k : Nat) (hk : k < n) (W : World) : (Instr.indexAt 40 (.slice (some ⟨b, off, none⟩) n c) (.int .i64 (k : Int))).run Tryd.prog W = .ok (.pointer (some ⟨b, off + k * 4, none⟩)) W := by
  have hi : (Tryd.prog.info? 57).map (·.size) = some 4 := by kernel_rfl
  cases hq : Tryd.prog.info? 57 with
  | none => simp [hq] at hi
  | some i =>
    have hi1 : i.size = 4 := by simpa [hq] using hi
    simp [Instr.indexAt, run_underlying Tryd.underlying40, asIntOf, sizeOf, typeInfo, hq, hi1, caddr_add, hk]
/-- A function's entry's cells. -/
structure FeC (w : World) (b off : Nat) (x : Fe) (a : Option Addr) (c : Nat) : Prop where
  c0 : w.cell? ⟨b, off, none⟩ = some (.int .i64 x.cie)
  c1 : w.cell? ⟨b, off + 1, none⟩ = some (.int .i64 x.beg)
  c2 : w.cell? ⟨b, off + 2, none⟩ = some (.int .i64 x.size)
  c3 : w.cell? ⟨b, off + 3, none⟩ = some (.slice a x.ops.length c)
theorem load_fde {w : World} {b off : Nat} {x : Fe} {a : Option Addr} {c : Nat} (h : FeC w b off x a c) : (loadVar 57 ⟨b, off, none⟩).run Tryd.prog w = .ok (.agg #[.int .i64 x.cie, .int .i64 x.beg, .int .i64 x.size, .slice a x.ops.length c]) w := by
  simp [loadVar, isAgg, run_underlying Tryd.underlying57, go_sem, h.c0, h.c1, h.c2, h.c3]
theorem OwnI.wk {base tb b : Nat} {w w1 : World} {v v1 u : Value} {L m : List Int} {addr : Int} (g : WK w w1 tb v v1) (hA : WA base w tb addr L v) (h : OwnI w b u m) : OwnI w1 b u m := by
  rcases h with ⟨h1, h2⟩
  refine ⟨h1, ?_⟩
  rcases h2 with h2 | ⟨q, cap, cur, rfl, h3, h4, h5⟩
  · exact .inl h2
  · refine .inr ⟨q, cap, cur, rfl, h3, ?_, h5⟩
    have K : Bk w q 3 cur := ⟨h4⟩
    refine (g.bk hA K (by decide) (fun e => ?_)).hp
    subst e
    have := h4.symm.trans hA.bk.hp
    injection this with this
    injection this with _ e2 _
    exact absurd e2 (by decide)
theorem GA.wk {base tb b0 g n : Nat} {w w1 : World} {v v1 : Value} {L : List Int} {addr : Int} {vs : List Value} {G : Nat → List Int} (h : GA b0 w g n vs G) (k : WK w w1 tb v v1) (hA : WA base w tb addr L v) (hg : g ≠ tb) : GA b0 w1 g n vs G :=
  ⟨k.bk hA h.bk (by decide) hg, h.len, fun j hj => (h.rows j hj).wk k hA, h.apart⟩

theorem OwnI.lies {w : World} {base : Nat} {v : Value} {xs : List Int} (h : OwnI w base v xs) (hne : 1 ≤ xs.length) :
    ∃ g cap, v = .slice (some ⟨g, 0, none⟩) xs.length cap ∧ ∀ i, i < xs.length → w.cell? ⟨g, i, none⟩ = some (.int .i64 (xs.getD i 0)) := by
  rcases h.2 with ⟨_, e⟩ | ⟨g, cap, cur, hv, h1, h2, h3, h4, h5, h6⟩
  · omega
  · refine ⟨g, cap, hv, fun i hi => ?_⟩
    have hx : (xs.map (Value.int .i64))[i]? = some (.int .i64 (xs.getD i 0)) := by simp [hi]
    have hc : cur[i]? = some (.int .i64 (xs.getD i 0)) := by
      rw [← hx, ← h6]
      rw [List.getElem?_take_of_lt (by simpa using hi)]
      simp
    simp only [World.cell?, h2]
    simpa using hc
/-- What Write has in memory: the writer, the places, the groups. -/
structure WS (w1 wr : World) (n : Nat) (addr : Int) (vs : List Value) (f : List Fe) (L A : List Int) (v : Value) : Prop where
  wa : WA w1.heap.size wr w1.heap.size addr L v
  at' : Bk wr (w1.heap.size + 1) 3 (A.map (Value.int .i64)).toArray
  len : A.length = f.length
  ga : GA (w1.heap.size + 1 + 1) wr (w1.heap.size + 1 + 1) n vs (grp f f.length)
  bel : Below w1.heap.size w1 wr
section
variable {w1 wr wr' : World} {n : Nat} {addr : Int} {vs : List Value} {f : List Fe} {L A L' : List Int} {v v' : Value}
theorem WS.to (h : WS w1 wr n addr vs f L A v) (hb : Below wr.heap.size wr wr') : WS w1 wr' n addr vs f L A v :=
  ⟨h.wa.bel hb, h.at'.bel hb h.at'.lt, h.len, h.ga.bel hb, h.bel.trans (hb.mono h.bel.size)⟩
theorem WS.wk (h : WS w1 wr n addr vs f L A v) (k : WK wr wr' w1.heap.size v v') (hA : WA w1.heap.size wr' w1.heap.size addr L' v') : WS w1 wr' n addr vs f L' A v' :=
  ⟨hA, k.bk h.wa h.at' (by decide) (by omega), h.len, h.ga.wk k h.wa (by omega), h.bel.trans (k.bel h.wa)⟩
theorem WS.set (h : WS w1 wr n addr vs f L A v) (i : Nat) (x : Int) : WS w1 (wr.setRow (w1.heap.size + 1) ((A.set i x).map (Value.int .i64)).toArray) n addr vs f L (A.set i x) v := by
  have hg := grown_set wr (w1.heap.size + 1) ((A.set i x).map (Value.int .i64)).toArray
  obtain ⟨M, m1, m2, m3⟩ := h.wa.own
  refine ⟨⟨h.wa.bk.setO (by omega) _, h.wa.lo, M, own_far m1 hg (fun e => ?_), m2, m3⟩, h.at'.setR _, by simp [h.len], ⟨h.ga.bk.setO (by omega) _, h.ga.len, fun k hk => ?_, h.ga.apart⟩, h.bel.trans (below_set _ _ _ (by omega))⟩
  · exact m1.not_bk h.at' (by decide) e.symm
  · refine (h.ga.rows k hk).far hg ?_
    cases hb : (vs.getD k (.slice none 0 0)).ownBlock with
    | none => exact .inr rfl
    | some p =>
      left
      intro e
      injection e with e
      have := ((h.ga.rows k hk).lt' p hb).1
      omega
end
theorem grp_mem {f : List Fe} {j k : Nat} {m : Nat} (hm : m < (grp f j k).length) : ∃ i : Nat, (grp f j k).getD m 0 = (i : Int) ∧ i < j := by
  have h1 : (grp f j k).getD m 0 ∈ grp f j k := by simp [hm]
  unfold grp at h1
  obtain ⟨i, hi, e⟩ := List.mem_map.1 h1
  exact ⟨i, e.symm, List.mem_range.1 (List.mem_filter.1 hi).1⟩
theorem check_0 {c : List Ce} {f : List Fe} (h : checkE c f = 0) : tooB c f = false ∧ numsB c f = true := by
  unfold checkE at h
  split at h
  · cases h
  · rename_i h1
    split at h
    · cases h
    · rename_i h2
      exact ⟨by simpa using h1, by simpa using h2⟩
theorem take_succ' {xs : List Int} {j : Nat} (h : j < xs.length) : xs.take (j + 1) = xs.take j ++ [xs.getD j 0] := by
  rw [List.take_add_one]
  simp [h]

theorem len_15 {k l l' j : Nat} (h1 : l ≤ k * 361000000) (hk : k ≤ 4000) (h2 : l' ≤ l + 90000 * (j + 1)) (hj : j ≤ 4000) : l' ≤ 1000000000000000 := by
  have h3 : k * 361000000 ≤ 4000 * 361000000 := Nat.mul_le_mul_right _ hk
  have h4 : 90000 * (j + 1) ≤ 90000 * 4001 := Nat.mul_le_mul_left _ (Nat.succ_le_succ hj)
  exact Nat.le_trans (Nat.le_trans h2 (Nat.add_le_add (Nat.le_trans h1 h3) h4)) (by decide)
theorem len_gap {l l' j : Nat} (h2 : l' ≤ l + 90000 * (j + 1)) (hj : j ≤ 4000) : l' - l < 4294967200 := by omega
theorem len_next {a b l j : Nat} (h1 : b ≤ a + 90000) (h2 : a ≤ l + 90000 * (j + 1)) : b ≤ l + 90000 * (j + 1 + 1) := by
  have e : l + 90000 * (j + 1 + 1) = l + 90000 * (j + 1) + 90000 := by rw [Nat.mul_succ 90000 (j + 1), Nat.add_assoc]
  rw [e]
  exact Nat.le_trans h1 (Nat.add_le_add_right h2 _)
theorem wriT_big {en : Bool} {L A : List Int} (h : 1048576 < (L ++ endB en).length) : wriT en (some (L, A)) = (6, [], []) := by
  show (if _ then _ else _) = _
  rw [if_pos h]
theorem wriT_ok {en : Bool} {L A : List Int} (h : ¬ 1048576 < (L ++ endB en).length) : wriT en (some (L, A)) = (0, L ++ endB en, A) := by
  show (if _ then _ else _) = _
  rw [if_neg h]
theorem own_lit4 (w : World) : Own (w.alloc (.cells #[.int .u8 0, .int .u8 0, .int .u8 0, .int .u8 0] 5)) w.heap.size (.slice (some ⟨w.heap.size, 0, none⟩) 4 4) [0, 0, 0, 0] :=
  ⟨rfl, .inr ⟨w.heap.size, 4, #[.int .u8 0, .int .u8 0, .int .u8 0, .int .u8 0], rfl, Nat.le_refl _, heap_alloc_new w _, Nat.le_refl _, by unfold maxLen; omega, rfl, rfl⟩⟩
theorem make4 (w : World) : (Instr.makeSlice 24 (.int .i64 4) (.int .i64 4)).run Tryd.prog w = .ok (.slice (some ⟨w.heap.size, 0, none⟩) 4 4) (w.alloc (.cells #[.int .u8 0, .int .u8 0, .int .u8 0, .int .u8 0] 5)) := by kernel_rfl
theorem setA {w : World} {b : Nat} {A : List Int} (h : Bk w b 3 (A.map (Value.int .i64)).toArray) (i : Nat) (x : Int) : w.setCell ⟨b, i, none⟩ (.int .i64 x) = w.setRow b ((A.set i x).map (Value.int .i64)).toArray := by
  rw [setCell_eq_setRow w b i _ 3 (0, 0) _ h.hp]
  congr 1
  rw [List.map_set]
  simp
theorem FeC.bel {w w' : World} {b off : Nat} {x : Fe} {a : Option Addr} {c : Nat} (h : FeC w b off x a c) (hb : Below w.heap.size w w') : FeC w' b off x a c :=
  ⟨up_bel h.c0 hb, up_bel h.c1 hb, up_bel h.c2 hb, up_bel h.c3 hb⟩
theorem own_at {w : World} {b base : Nat} {A : List Int} (h : Bk w b 3 (A.map (Value.int .i64)).toArray) (hb : base ≤ b) (hl : A.length ≤ 4000) : OwnI w base (.slice (some ⟨b, 0, none⟩) A.length A.length) A :=
  ⟨by simp, .inr ⟨b, A.length, _, rfl, hb, h.hp, Nat.le_refl _, by unfold maxLen; omega, by simp, by rw [List.take_of_length_le (by simp)]⟩⟩
theorem grpM_one {addr enc : Int} {place : Nat} {f : List Fe} {i : Nat} {L A : List Int} : grpM addr enc place f [(i : Int)] (L, A) = (match fdeM addr enc place (f.getD i Fe.zero) L with | none => none | some L' => some (L', A.set i (L.length : Int))) := by
  first
    | (simp only [grpM, Int.toNat_natCast]; rfl)
    | simp only [grpM, Int.toNat_natCast]
theorem grp_none {addr enc : Int} {place : Nat} {f : List Fe} {gl : List Int} {j i : Nat} {s : List Int × List Int} {L A : List Int} (hj : j < gl.length) (hi : gl.getD j 0 = (i : Int)) (h : grpM addr enc place f (gl.take j) s = some (L, A)) (hm : fdeM addr enc place (f.getD i Fe.zero) L = none) : grpM addr enc place f gl s = none := by
  have e : gl = gl.take (j + 1) ++ gl.drop (j + 1) := (List.take_append_drop _ _).symm
  rw [e, grpM_app, take_succ' hj, grpM_app, h]
  simp only [hi, grpM_one, hm]
theorem grp_some {addr enc : Int} {place : Nat} {f : List Fe} {gl : List Int} {j i : Nat} {s : List Int × List Int} {L A L2 : List Int} (hj : j < gl.length) (hi : gl.getD j 0 = (i : Int)) (h : grpM addr enc place f (gl.take j) s = some (L, A)) (hm : fdeM addr enc place (f.getD i Fe.zero) L = some L2) : grpM addr enc place f (gl.take (j + 1)) s = some (L2, A.set i (L.length : Int)) := by
  rw [take_succ' hj, grpM_app, h]
  simp only [hi, grpM_one, hm]
set_option maxHeartbeats 16000000 in
set_option maxRecDepth 20000 in
theorem pwri (ac : Option Addr) (cc : Nat) (c : List Ce) (af : Option Addr) (cf : Nat) (f : List Fe) (addr : Int) (en : Bool) (w : World) (hC : Cs w ac c) (hF : Fs w af f) (hcl : c.length ≤ 140737488355328) (hfl : f.length ≤ 140737488355328) (hei : ∀ x ∈ c, -9223372036854775808 ≤ x.enc ∧ x.enc ≤ 9223372036854775807) (hz : Fz w) :
    Calls Tryd.prog 13 #[.slice ac c.length cc, .slice af f.length cf, .int .i64 addr, .bool en] w (WrEnd (wriR c f addr en) w) := by
  have HCk : Hid _ := ⟨check_any ac cc c af cf f w hC hF hcl hfl hei hz⟩
  have HSt : Hid _ := ⟨start_any addr⟩
  by_cases hce : checkE c f = 0
  rotate_left
  · have hr : wriR c f addr en = (checkE c f, [], []) := by unfold wriR; rw [if_pos hce]
    rw [hr]
    generalize checkE c f = E at *
    have n1 : (E != 0) = true := by simpa using hce
    have n2 : (E == 0) = false := by simpa using hce
    clear hC hF hr
    go_enter Tryd.func13, Tryd.ntmps13
    go_wp2_with (go_at_call 15; (with_reducible refine HCk.out.mono ?_); rintro e w1 ⟨he, hb1⟩; subst he; have HB1 : Hid _ := ⟨hb1⟩; clear hb1)
    go_ret3
    exact WrEnd.bad HB1.out
  rw [hce] at HCk
  by_cases hst : (decide (0 ≤ addr) && decide (addr ≤ 576460752303423488)) = true
  rotate_left
  · have hst' : (decide (0 ≤ addr) && decide (addr ≤ 576460752303423488)) = false := by simpa using hst
    have hr : wriR c f addr en = (11, [], []) := by
      unfold wriR
      rw [if_neg (by rw [hce]; simp), if_pos (by simp at hst; omega)]
    rw [hr]
    rw [hst'] at HSt
    clear hC hF hr hst hst'
    go_enter Tryd.func13, Tryd.ntmps13
    go_wp2_with (first
      | (go_at_call 15; (with_reducible refine HCk.out.mono ?_); rintro e w1 ⟨he, hb1⟩; subst he; have HB1 : Hid _ := ⟨hb1⟩; clear hb1)
      | (go_at_call 38; (with_reducible refine (HSt.out _).mono ?_); rintro e wn ⟨he, hwn⟩; subst he; subst wn))
    go_ret3
    exact WrEnd.bad HB1.out
  rw [hst] at HSt
  have ha : 0 ≤ addr ∧ addr ≤ 576460752303423488 := by simpa using hst
  have hk0 := check_0 hce
  obtain ⟨hci, hfi, hc4, hf4⟩ := too_cl hk0.1
  obtain ⟨hce2, hnf⟩ := nums_in hk0.2
  have hr : wriR c f addr en = wriT en (runM addr c f c.length) := by
    unfold wriR
    rw [if_neg (by rw [hce]; simp), if_neg (by omega)]
  rw [hr]
  have HC : Hid _ := ⟨hC⟩
  have HF : Hid _ := ⟨hF⟩
  have HZ : Hid _ := ⟨hz⟩
  have HCI : Hid _ := ⟨hci⟩
  have HFI : Hid _ := ⟨hfi⟩
  have HE2 : Hid _ := ⟨hce2⟩
  have HNF : Hid _ := ⟨hnf⟩
  have hmk := makeI f.length hf4
  have HG : Hid _ := ⟨fun w2 (hF2 : Fs w2 af f) (g : Nat) (hg : g = w2.heap.size) => byCie_any af cf f c.length w2 hF2 hf4 hc4 hnf g hg⟩
  clear hC hF hz hci hfi hce2 hnf hr hst hk0 hce hei
  go_enter Tryd.func13, Tryd.ntmps13
  go_upto_region 8 with (first
    | (go_at_call 15; (with_reducible refine HCk.out.mono ?_); rintro e w1 ⟨he, hb1⟩; subst he; have HB1 : Hid _ := ⟨hb1⟩; clear hb1)
    | (go_at_call 38; (with_reducible refine (HSt.out _).mono ?_); rintro e wn ⟨he, hwn⟩; subst he; subst wn))
  have HT : Hid (Bk ((w1.alloc (.cells #[.int .i64 addr, .int .i64 0, .slice none 0 0] 81)).alloc (.cells (Array.replicate f.length (Value.int .i64 0)) 3)) w1.heap.size 81 #[.int .i64 addr, .int .i64 0, .slice none 0 0] ∧ Bk ((w1.alloc (.cells #[.int .i64 addr, .int .i64 0, .slice none 0 0] 81)).alloc (.cells (Array.replicate f.length (Value.int .i64 0)) 3)) (w1.heap.size + 1) 3 (Array.replicate f.length (Value.int .i64 0)) ∧ Below w1.heap.size w1 ((w1.alloc (.cells #[.int .i64 addr, .int .i64 0, .slice none 0 0] 81)).alloc (.cells (Array.replicate f.length (Value.int .i64 0)) 3)) ∧ ((w1.alloc (.cells #[.int .i64 addr, .int .i64 0, .slice none 0 0] 81)).alloc (.cells (Array.replicate f.length (Value.int .i64 0)) 3)).heap.size = w1.heap.size + 1 + 1) := by
    have B1 := Bk.new w1 #[.int .i64 addr, .int .i64 0, .slice none 0 0] 81
    have B2 := B1.bel ((Below.refl _ _).alloc (Nat.le_refl _) (.cells (Array.replicate f.length (Value.int .i64 0)) 3)) B1.lt
    have b0 := (Below.refl w1.heap.size w1).alloc (Nat.le_refl _) (.cells #[.int .i64 addr, .int .i64 0, .slice none 0 0] 81)
    have B3 := Bk.new (w1.alloc (.cells #[.int .i64 addr, .int .i64 0, .slice none 0 0] 81)) (Array.replicate f.length (Value.int .i64 0)) 3
    exact ⟨B2, by simpa using B3, b0.alloc b0.size _, by simp⟩
  generalize ((w1.alloc (.cells #[.int .i64 addr, .int .i64 0, .slice none 0 0] 81)).alloc (.cells (Array.replicate f.length (Value.int .i64 0)) 3)) = w2 at *
  go_wp2_with
    (go_at_call 39; (with_reducible refine (HG.out _ (HF.out.bel (HB1.out.trans (HT.out.2.2.1.mono HB1.out.size))) (w1.heap.size + 1 + 1) HT.out.2.2.2.symm).mono ?_); rintro e w3 ⟨he, hg3, hb3⟩; subst he; have HG3 : Hid _ := ⟨hg3⟩; have HB3 : Hid _ := ⟨hb3⟩; clear hg3 hb3)
  obtain ⟨vs, hvs⟩ := HG3.out
  have HS0 : Hid (WS w1 w3 c.length addr vs f [] (List.replicate f.length 0) (.slice none 0 0)) := ⟨by
    rw [HT.out.2.2.2] at hvs
    refine ⟨⟨HT.out.1.bel HB3.out HT.out.1.lt, Nat.le_refl _, [], Own.nil _ _, fun _ => rfl, by simp⟩, ?_, by simp, hvs, HT.out.2.2.1.trans (HB3.out.mono HT.out.2.2.1.size)⟩
    have := HT.out.2.1.bel HB3.out HT.out.2.1.lt
    simpa using this⟩
  clear hvs HG3 HB3 HT HG HCk HSt
  go_loopw [9, 39] (fun tv iv wr => tv = .slice (some ⟨w1.heap.size + 1, 0, none⟩) f.length f.length ∧ ∃ k : Nat, k ≤ c.length ∧ iv = .int .i64 k ∧ Hid (∃ L A v, runM addr c f k = some (L, A) ∧ WS w1 wr c.length addr vs f L A v ∧ L.length ≤ k * 361000000)) (fun _ iv _ => c.length - (intOf iv).toNat)
  case atStart => exact ⟨rfl, 0, by omega, rfl, ⟨[], _, _, rfl, HS0.out, by simp⟩⟩
  case round =>
    obtain ⟨rfl, k, hk, rfl, HV⟩ := hrel
    by_cases hlt : k < c.length
    · obtain ⟨L, A, v, hrun, hWS, hLl⟩ := HV.out
      have q1 : (k : Int) < (c.length : Int) := by omega
      have q0 : (0 : Int) ≤ (k : Int) := by omega
      have hbw : Below w.heap.size w wr := HB1.out.trans (hWS.bel.mono HB1.out.size)
      obtain ⟨b, off, rfl, hat⟩ : ∃ b off, ac = some ⟨b, off, none⟩ ∧ ∀ j, j < c.length → CeAt wr b (off + j * 2) (c.getD j Ce.zero) := by
        rcases HC.out.bel hbw with h | h
        · omega
        · exact h
      obtain ⟨a, cp, c0, c1, hI⟩ := hat k hlt
      have he2 := enc_of (HE2.out _ (ce_in hlt))
      have hil := HCI.out _ (ce_in hlt)
      have hrs := rec_short (cieB (c.getD k Ce.zero).enc) (c.getD k Ce.zero).ini (by simp [cieB])
      have hrl := rec_len 0 (cieB (c.getD k Ce.zero).enc) (c.getD k Ce.zero).ini
      have hrun1 : runM addr c f (k + 1) = grpM addr (c.getD k Ce.zero).enc L.length f (grp f f.length k) (L ++ recB 0 (cieB (c.getD k Ce.zero).enc) (c.getD k Ce.zero).ini, A) := by
        exact run_succ hrun
      clear hat
      generalize (c.getD k Ce.zero) = y at *
      generalize hR0 : recB 0 (cieB y.enc) y.ini = R0 at *
      have K4 := Bk.new wr #[.int .i64 y.enc, .slice a y.ini.length cp] 76
      have hb4 : Below wr.heap.size wr (wr.alloc (.cells #[.int .i64 y.enc, .slice a y.ini.length cp] 76)) := (Below.refl _ _).alloc (Nat.le_refl _) _
      have S4 := hWS.to hb4
      have HCi : Hid _ := ⟨cie_any S4.wa (by omega) y.enc (by omega) (by omega) a cp y.ini (by omega) (hI.bel hb4) (HZ.out.bel (hbw.trans (hb4.mono hbw.size)) HZ.out.z) S4.bel.size⟩
      rw [hR0] at HCi
      have H4 : Hid _ := ⟨S4⟩
      have HK4 : Hid _ := ⟨K4⟩
      have HR1 : Hid _ := ⟨hrun1⟩
      have HLl : Hid (L.length ≤ k * 361000000 ∧ R0.length ≤ 90000) := ⟨hLl, by omega⟩
      have HGz : Hid (w1.heap.size + 1 + 1 < wr.heap.size) := ⟨hWS.ga.bk.lt⟩
      have HNe : Hid (wr.heap.size ≠ w1.heap.size) := ⟨by have := hWS.ga.bk.lt; omega⟩
      have HEn : Hid (0 ≤ y.enc ∧ y.enc ≤ 60) := ⟨he2.2.2.2⟩
      clear hrun hrun1 hWS hLl hI he2 hil hrs hrl S4 K4 hb4 hbw HV
      obtain ⟨gl, hgl⟩ : ∃ gl, grp f f.length k = gl := ⟨_, rfl⟩
      have hgln : gl.length ≤ 4000 := by rw [← hgl]; have := grp_len f f.length k; omega
      have HGl : Hid _ := ⟨hgl⟩
      clear hgl
      go_upto_region 13 with
        (go_at_call 40; (with_reducible refine HCi.out.mono ?_); rintro e w5 ⟨he, v5, ha5, hk5⟩; subst he; have H5 : Hid (WS w1 w5 c.length addr vs f (L ++ R0) A v5 ∧ Bk w5 wr.heap.size 76 #[.int .i64 y.enc, .slice a y.ini.length cp]) := ⟨H4.out.wk hk5 ha5, hk5.bk H4.out.wa HK4.out (by decide) HNe.out⟩; clear ha5 hk5)
      have hrow := H5.out.1.ga.rows k hlt
      rw [HGl.out] at hrow
      obtain ⟨ga, gc, hga⟩ := hrow.sl
      have gcell := H5.out.1.ga.cell k hlt
      rw [hga] at gcell
      have HGA : Hid _ := ⟨hga⟩
      clear hrow hga
      go_wp2
      have HB5 : Hid (w1.heap.size + 1 + 1 < wr.heap.size) := HGz
      clear c0 c1 HCi H4 HK4 HNe
      generalize wr.heap.size = xb at *
      go_loopw [9, 51] (fun tv iv wq => tv = .slice (some ⟨w1.heap.size + 1, 0, none⟩) f.length f.length ∧ ∃ j : Nat, j ≤ gl.length ∧ iv = .int .i64 j ∧ Hid (∃ L' A' v', grpM addr y.enc L.length f (gl.take j) (L ++ R0, A) = some (L', A') ∧ WS w1 wq c.length addr vs f L' A' v' ∧ Bk wq xb 76 #[.int .i64 y.enc, .slice a y.ini.length cp] ∧ L.length ≤ L'.length ∧ L'.length ≤ L.length + 90000 * (j + 1))) (fun _ iv _ => gl.length - (intOf iv).toNat)
      case atStart => exact ⟨rfl, 0, by omega, rfl, ⟨L ++ R0, A, v5, rfl, H5.out.1, H5.out.2, by simp, by have := HLl.out.2; simp; omega⟩⟩
      case round =>
        obtain ⟨rfl, j, hj, rfl, HU⟩ := hrel
        by_cases hjl : j < gl.length
        · obtain ⟨L', A', v', hg, hWS, hKX, hl1, hl2⟩ := HU.out
          have hbw : Below w.heap.size w wr := HB1.out.trans (hWS.bel.mono HB1.out.size)
          have q3 : (j : Int) < (gl.length : Int) := by omega
          have q4 : (0 : Int) ≤ (j : Int) := by omega
          have hrow := hWS.ga.rows k hlt
          rw [HGl.out] at hrow
          obtain ⟨gb, gcap, hgv, hgc⟩ := hrow.lies (by omega)
          have hge := HGA.out.symm.trans hgv
          injection hge with ge1 ge2 ge3
          subst ge1
          subst ge3
          obtain ⟨i, hi, hif⟩ : ∃ i : Nat, gl.getD j 0 = (i : Int) ∧ i < f.length := by
            have := grp_mem (f := f) (j := f.length) (k := k) (m := j) (by rw [HGl.out]; exact hjl)
            rw [HGl.out] at this
            exact this
          have g1 := hgc j hjl
          rw [hi] at g1
          have q5 : (i : Int) < (f.length : Int) := by omega
          have q6 : (0 : Int) ≤ (i : Int) := by omega
          obtain ⟨fb, fo, haf, hatf⟩ : ∃ b off, af = some ⟨b, off, none⟩ ∧ ∀ j, j < f.length → FeAt w b (off + j * 4) (f.getD j Fe.zero) := by
            rcases HF.out with h | h
            · omega
            · exact h
          subst haf
          obtain ⟨fa, fcp, x0, x1, x2, x3, hIf⟩ := hatf i hif
          have hFC : FeC w fb (fo + i * 4) (f.getD i Fe.zero) fa fcp := ⟨x0, x1, x2, x3⟩
          have t1 := hWS.wa.bk.cell 1 rfl
          have hiA : i < A'.length := by rw [hWS.len]; exact hif
          have a1 : wr.cell? ⟨w1.heap.size + 1, i, none⟩ = some (.int .i64 (A'.getD i 0)) := hWS.at'.cell i (by simp [hiA])
          have a2 := hWS.at'.fro
          have hol := HFI.out _ (fe_in hif)
          have S6 := hWS.set i (L'.length : Int)
          have hset := setA hWS.at' i (L'.length : Int)
          have KX6 := hKX.setO (show xb ≠ w1.heap.size + 1 by have := HB5.out; omega) ((A'.set i (L'.length : Int)).map (Value.int .i64)).toArray
          have hbw6 : Below w.heap.size w (wr.setRow (w1.heap.size + 1) ((A'.set i (L'.length : Int)).map (Value.int .i64)).toArray) := HB1.out.trans (S6.bel.mono HB1.out.size)
          have HGm : Hid _ := ⟨hg⟩
          have HI2 : Hid _ := ⟨hi⟩
          have HSet : Hid _ := ⟨hset⟩
          have H6 : Hid _ := ⟨S6⟩
          have HKX6 : Hid _ := ⟨KX6⟩
          have HBw6 : Hid _ := ⟨hbw6⟩
          have HFC : Hid _ := ⟨hFC⟩
          have HIf : Hid _ := ⟨hIf⟩
          clear hg hi hset S6 KX6 hbw6 hFC hIf x0 x1 x2 x3 hgc hgv hrow hatf hWS hKX HU hbw
          go_upto_region 17 with (fail)
          rw [HSet.out]
          generalize (wr.setRow (w1.heap.size + 1) ((A'.set i (L'.length : Int)).map (Value.int .i64)).toArray) = w6 at *
          have hd6 : Below w6.heap.size w6 w6.drew := (Below.refl _ _).drew
          have S6 := H6.out.to hd6
          have KX6 := HKX6.out
          have hbw6 : Below w.heap.size w w6.drew := HBw6.out.drew
          have FC6 := HFC.out.bel hbw6
          have HFd : Hid _ := ⟨fde_any S6.wa (len_15 HLl.out.1 (Nat.le_trans hk hc4) hl2 (Nat.le_trans hj hgln)) ha.1 ha.2 (f.getD i Fe.zero) y.enc HEn.out.1 (Int.le_trans HEn.out.2 (by decide)) L.length hl1 (len_gap hl2 (Nat.le_trans hj hgln)) fa fcp (Nat.le_trans hol (by decide)) (HIf.out.bel hbw6) (HZ.out.bel hbw6 HZ.out.z) S6.bel.size⟩
          have HS6 : Hid _ := ⟨S6⟩
          have HBq : Hid _ := ⟨hbw6⟩
          clear t1 a1 a2 hd6 S6 hbw6 HIf HSet
          generalize hxx : (f.getD i Fe.zero) = x at *
          have HXX : Hid _ := ⟨hxx⟩
          clear hxx
          cases hm : fdeM addr y.enc L.length x L' with
          | none =>
            rw [hm] at HFd
            refine wp_region_held_drew (S := fun u => Bk u xb 76 #[.int .i64 y.enc, .slice a y.ini.length cp] ∧ FeC u fb (fo + i * 4) x fa fcp) (by kernel_rfl) ⟨⟨KX6.hp⟩, FC6⟩ (fun hS => ?_)
            refine wpAnyH_take (i := 0) (v := .slice (some ⟨fb, fo, none⟩) f.length cf) rfl (by kernel_rfl) (by kernel_rfl) (by kernel_rfl) (fun _ _ _ h => h) (Or.inl ⟨by kernel_rfl, fun u hu => by kernel_rfl⟩) hS ?_
            simp only [Act.put, List.getElem_toArray, List.getElem_cons_succ, List.getElem_cons_zero, List.setIfInBounds_toArray, List.set_cons_zero, List.set_cons_succ]
            refine wpAnyH_take (i := 1) (v := .int .i64 (i : Int)) rfl (by kernel_rfl) (by kernel_rfl) (by kernel_rfl) (fun _ _ _ h => h) (Or.inl ⟨by kernel_rfl, fun u hu => by kernel_rfl⟩) hS ?_
            simp only [Act.put, List.getElem_toArray, List.getElem_cons_succ, List.getElem_cons_zero, List.setIfInBounds_toArray, List.set_cons_zero, List.set_cons_succ]
            refine wpAnyH_take (i := 2) (v := .pointer (some ⟨fb, fo + i * 4, none⟩)) rfl (by kernel_rfl) (by kernel_rfl) (by kernel_rfl) (fun _ _ _ h => h) (Or.inl ⟨by kernel_rfl, fun u hu => exec_ix rfl (by kernel_rfl) (by kernel_rfl) (ix_fde fb fo f.length cf i hif u)⟩) hS ?_
            simp only [Act.put, List.getElem_toArray, List.getElem_cons_succ, List.getElem_cons_zero, List.setIfInBounds_toArray, List.set_cons_zero, List.set_cons_succ]
            refine wpAnyH_take (i := 3) (v := .agg #[.int .i64 x.cie, .int .i64 x.beg, .int .i64 x.size, .slice fa x.ops.length fcp]) rfl (by kernel_rfl) (by kernel_rfl) (by kernel_rfl) (fun _ _ _ h => h) (Or.inl ⟨by kernel_rfl, fun u hu => exec_loadV (t := 57) (p := ⟨fb, fo + i * 4, none⟩) rfl (by kernel_rfl) (load_fde hu.2)⟩) hS ?_
            simp only [Act.put, List.getElem_toArray, List.getElem_cons_succ, List.getElem_cons_zero, List.setIfInBounds_toArray, List.set_cons_zero, List.set_cons_succ]
            refine wpAnyH_take (i := 4) (v := .pointer (some ⟨xb, 0, none⟩)) rfl (by kernel_rfl) (by kernel_rfl) (by kernel_rfl) (fun _ _ _ h => h) (Or.inl ⟨by kernel_rfl, fun u hu => by kernel_rfl⟩) hS ?_
            simp only [Act.put, List.getElem_toArray, List.getElem_cons_succ, List.getElem_cons_zero, List.setIfInBounds_toArray, List.set_cons_zero, List.set_cons_succ]
            refine wpAnyH_take (i := 5) (v := .int .i64 y.enc) rfl (by kernel_rfl) (by kernel_rfl) (by kernel_rfl) (fun _ _ _ h => h) (Or.inl ⟨by kernel_rfl, fun u hu => exec_loadV (t := 3) (p := ⟨xb, 0, none⟩) rfl (by kernel_rfl) (load_i64 (hu.1.cell 0 rfl))⟩) hS ?_
            simp only [Act.put, List.getElem_toArray, List.getElem_cons_succ, List.getElem_cons_zero, List.setIfInBounds_toArray, List.set_cons_zero, List.set_cons_succ]
            refine wpAnyH_take (i := 6) (v := .int .i64 (L.length : Int)) rfl (by kernel_rfl) (by kernel_rfl) (by kernel_rfl) (fun _ _ _ h => h) (Or.inl ⟨by kernel_rfl, fun u hu => by kernel_rfl⟩) hS ?_
            simp only [Act.put, List.getElem_toArray, List.getElem_cons_succ, List.getElem_cons_zero, List.setIfInBounds_toArray, List.set_cons_zero, List.set_cons_succ]
            refine wpAnyH_ready (rs := [7]) (by kernel_rfl) (by simp) ?_
            refine AllReadyH.cons rfl (fun K hK => ?_) AllReadyH.nil
            simp only [List.getElem_toArray, List.getElem_cons_succ, List.getElem_cons_zero]
            refine wp_if (by kernel_rfl) ?_
            refine wp_enter (f := 41) (args := #[.pointer (some ⟨w1.heap.size, 0, none⟩), .agg #[.int .i64 x.cie, .int .i64 x.beg, .int .i64 x.size, .slice fa x.ops.length fcp], .int .i64 y.enc, .int .i64 (L.length : Int)]) (by kernel_rfl) HFd.out ?_
            rintro e w7 ⟨rfl, hb7⟩
            refine ⟨_, rfl, ?_⟩
            refine hK.out _ _ ⟨(show Bk w6.drew xb _ _ from ⟨KX6.hp⟩).bel hb7 (by exact KX6.lt), HFC.out.bel (HBq.out.trans (hb7.mono HBq.out.size))⟩ (fun hS => ?_)
            have HB7 : Hid (Below w.heap.size w w7) := ⟨HBq.out.trans (hb7.mono HBq.out.size)⟩
            clear hK hb7
            simp only [Act.put, List.getElem_toArray, List.getElem_cons_succ, List.getElem_cons_zero, List.setIfInBounds_toArray, List.set_cons_zero, List.set_cons_succ]
            refine wpAnyH_take (i := 8) (v := .bool true) rfl (by kernel_rfl) (by kernel_rfl) (by kernel_rfl) (fun _ _ _ h => h) (Or.inl ⟨by kernel_rfl, fun u hu => by kernel_rfl⟩) hS ?_
            simp only [Act.put, List.getElem_toArray, List.getElem_cons_succ, List.getElem_cons_zero, List.setIfInBounds_toArray, List.set_cons_zero, List.set_cons_succ]
            refine wpAnyH_done (by kernel_rfl) ?_ _
            go_wp2_with fail
            go_ret3
            have e : runM addr c f c.length = none := run_none (HR1.out.trans (by rw [HGl.out]; exact grp_none hjl HI2.out HGm.out (by rw [HXX.out]; exact hm))) _ (by omega)
            rw [e]
            exact WrEnd.bad HB7.out
          | some L2 =>
            rw [hm] at HFd
            refine wp_region_held_drew (S := fun u => Bk u xb 76 #[.int .i64 y.enc, .slice a y.ini.length cp] ∧ FeC u fb (fo + i * 4) x fa fcp) (by kernel_rfl) ⟨⟨KX6.hp⟩, FC6⟩ (fun hS => ?_)
            refine wpAnyH_take (i := 0) (v := .slice (some ⟨fb, fo, none⟩) f.length cf) rfl (by kernel_rfl) (by kernel_rfl) (by kernel_rfl) (fun _ _ _ h => h) (Or.inl ⟨by kernel_rfl, fun u hu => by kernel_rfl⟩) hS ?_
            simp only [Act.put, List.getElem_toArray, List.getElem_cons_succ, List.getElem_cons_zero, List.setIfInBounds_toArray, List.set_cons_zero, List.set_cons_succ]
            refine wpAnyH_take (i := 1) (v := .int .i64 (i : Int)) rfl (by kernel_rfl) (by kernel_rfl) (by kernel_rfl) (fun _ _ _ h => h) (Or.inl ⟨by kernel_rfl, fun u hu => by kernel_rfl⟩) hS ?_
            simp only [Act.put, List.getElem_toArray, List.getElem_cons_succ, List.getElem_cons_zero, List.setIfInBounds_toArray, List.set_cons_zero, List.set_cons_succ]
            refine wpAnyH_take (i := 2) (v := .pointer (some ⟨fb, fo + i * 4, none⟩)) rfl (by kernel_rfl) (by kernel_rfl) (by kernel_rfl) (fun _ _ _ h => h) (Or.inl ⟨by kernel_rfl, fun u hu => exec_ix rfl (by kernel_rfl) (by kernel_rfl) (ix_fde fb fo f.length cf i hif u)⟩) hS ?_
            simp only [Act.put, List.getElem_toArray, List.getElem_cons_succ, List.getElem_cons_zero, List.setIfInBounds_toArray, List.set_cons_zero, List.set_cons_succ]
            refine wpAnyH_take (i := 3) (v := .agg #[.int .i64 x.cie, .int .i64 x.beg, .int .i64 x.size, .slice fa x.ops.length fcp]) rfl (by kernel_rfl) (by kernel_rfl) (by kernel_rfl) (fun _ _ _ h => h) (Or.inl ⟨by kernel_rfl, fun u hu => exec_loadV (t := 57) (p := ⟨fb, fo + i * 4, none⟩) rfl (by kernel_rfl) (load_fde hu.2)⟩) hS ?_
            simp only [Act.put, List.getElem_toArray, List.getElem_cons_succ, List.getElem_cons_zero, List.setIfInBounds_toArray, List.set_cons_zero, List.set_cons_succ]
            refine wpAnyH_take (i := 4) (v := .pointer (some ⟨xb, 0, none⟩)) rfl (by kernel_rfl) (by kernel_rfl) (by kernel_rfl) (fun _ _ _ h => h) (Or.inl ⟨by kernel_rfl, fun u hu => by kernel_rfl⟩) hS ?_
            simp only [Act.put, List.getElem_toArray, List.getElem_cons_succ, List.getElem_cons_zero, List.setIfInBounds_toArray, List.set_cons_zero, List.set_cons_succ]
            refine wpAnyH_take (i := 5) (v := .int .i64 y.enc) rfl (by kernel_rfl) (by kernel_rfl) (by kernel_rfl) (fun _ _ _ h => h) (Or.inl ⟨by kernel_rfl, fun u hu => exec_loadV (t := 3) (p := ⟨xb, 0, none⟩) rfl (by kernel_rfl) (load_i64 (hu.1.cell 0 rfl))⟩) hS ?_
            simp only [Act.put, List.getElem_toArray, List.getElem_cons_succ, List.getElem_cons_zero, List.setIfInBounds_toArray, List.set_cons_zero, List.set_cons_succ]
            refine wpAnyH_take (i := 6) (v := .int .i64 (L.length : Int)) rfl (by kernel_rfl) (by kernel_rfl) (by kernel_rfl) (fun _ _ _ h => h) (Or.inl ⟨by kernel_rfl, fun u hu => by kernel_rfl⟩) hS ?_
            simp only [Act.put, List.getElem_toArray, List.getElem_cons_succ, List.getElem_cons_zero, List.setIfInBounds_toArray, List.set_cons_zero, List.set_cons_succ]
            refine wpAnyH_ready (rs := [7]) (by kernel_rfl) (by simp) ?_
            refine AllReadyH.cons rfl (fun K hK => ?_) AllReadyH.nil
            simp only [List.getElem_toArray, List.getElem_cons_succ, List.getElem_cons_zero]
            refine wp_if (by kernel_rfl) ?_
            refine wp_enter (f := 41) (args := #[.pointer (some ⟨w1.heap.size, 0, none⟩), .agg #[.int .i64 x.cie, .int .i64 x.beg, .int .i64 x.size, .slice fa x.ops.length fcp], .int .i64 y.enc, .int .i64 (L.length : Int)]) (by kernel_rfl) HFd.out ?_
            rintro e w7 ⟨rfl, v7, ha7, hk7⟩
            refine ⟨_, rfl, ?_⟩
            have S7 := HS6.out.wk hk7 ha7
            have KX7 := hk7.bk HS6.out.wa (show Bk w6.drew xb _ _ from ⟨KX6.hp⟩) (by decide) (by have := HB5.out; omega)
            refine hK.out _ _ ⟨KX7, HFC.out.bel (HB1.out.trans (S7.bel.mono HB1.out.size))⟩ (fun hS => ?_)
            have H7 : Hid _ := ⟨S7⟩
            have HK7 : Hid _ := ⟨KX7⟩
            clear hK ha7 hk7 S7 KX7
            simp only [Act.put, List.getElem_toArray, List.getElem_cons_succ, List.getElem_cons_zero, List.setIfInBounds_toArray, List.set_cons_zero, List.set_cons_succ]
            refine wpAnyH_take (i := 8) (v := .bool false) rfl (by kernel_rfl) (by kernel_rfl) (by kernel_rfl) (fun _ _ _ h => h) (Or.inl ⟨by kernel_rfl, fun u hu => by kernel_rfl⟩) hS ?_
            simp only [Act.put, List.getElem_toArray, List.getElem_cons_succ, List.getElem_cons_zero, List.setIfInBounds_toArray, List.set_cons_zero, List.set_cons_succ]
            refine wpAnyH_done (by kernel_rfl) ?_ _
            go_wp2_with fail
            go_roundw
            case rel => exact ⟨rfl, j + 1, by omega, by go_num, ⟨L2, _, v7, grp_some hjl HI2.out HGm.out (by rw [HXX.out]; exact hm), H7.out, HK7.out, Nat.le_trans hl1 (fdeM_ge hm), len_next (fdeM_len hm) hl2⟩⟩
            case measure => simp [intOf]; omega
        · obtain rfl : j = gl.length := by omega
          obtain ⟨L', A', v', hg, hWS, hKX, hl1, hl2⟩ := HU.out
          have q3 : ¬ (gl.length : Int) < (gl.length : Int) := by omega
          rw [List.take_length] at hg
          have HGm : Hid _ := ⟨hg⟩
          have H6 : Hid _ := ⟨hWS⟩
          clear hg hWS hKX HU
          go_wp2
          go_roundw
          case rel => exact ⟨rfl, k + 1, by omega, by go_num, ⟨L', A', v', HR1.out.trans (by rw [HGl.out]; exact HGm.out), H6.out, by have := HLl.out.1; omega⟩⟩
          case measure => simp [intOf]; omega
    · obtain rfl : k = c.length := by omega
      obtain ⟨L, A, v, hrun, hWS, hLl⟩ := HV.out
      have q3 : ¬ (c.length : Int) < (c.length : Int) := by omega
      have HRn : Hid _ := ⟨hrun⟩
      have H6 : Hid _ := ⟨hWS⟩
      have hL15 : L.length ≤ 1000000000000000 := len_15 hLl hc4 (Nat.le_add_right _ _) (Nat.zero_le 4000)
      clear hrun HV HS0 hLl
      have hA4 : A.length ≤ 4000 := by rw [hWS.len]; exact hf4
      have HA : Hid (∀ W, WS w1 W c.length addr vs f L A v → True) := ⟨fun _ _ => trivial⟩
      cases en
      · have k1 := hWS.wa.bk.cell 1 rfl
        have k2 := hWS.wa.bk.cell 2 rfl
        clear hWS
        by_cases hbig : 1048576 < L.length
        · have hb1 : (1048576 : Int) < (L.length : Int) := by omega
          go_wp2
          go_ret3
          have e : wriT false (runM addr c f c.length) = (6, [], []) := by rw [HRn.out]; exact wriT_big (by simpa [endB] using hbig)
          rw [e]
          exact WrEnd.bad (HB1.out.trans (H6.out.bel.mono HB1.out.size))
        · have hb1 : ¬ (1048576 : Int) < (L.length : Int) := by omega
          go_wp2
          go_ret3
          have e : wriT false (runM addr c f c.length) = (0, L ++ endB false, A) := by rw [HRn.out]; exact wriT_ok (by simpa [endB] using hbig)
          rw [show L ++ endB false = L from List.append_nil _] at e
          rw [e]
          obtain ⟨M, hM, hML, _⟩ := H6.out.wa.own
          rw [hML (by omega)] at hM
          have hat := own_at (base := w.heap.size) H6.out.at' (Nat.le_trans HB1.out.size (Nat.le_succ _)) hA4
          rw [H6.out.len] at hat
          exact ⟨_, _, rfl, Own.lowE hM HB1.out.size, hat, HB1.out.trans (H6.out.bel.mono HB1.out.size)⟩
      · have hmk4 := make4
        clear hWS
        have b7 : Below wr.heap.size wr (wr.alloc (.cells #[.int .u8 0, .int .u8 0, .int .u8 0, .int .u8 0] 5)) := (Below.refl _ _).alloc (Nat.le_refl _) _
        have S7 := H6.out.to b7
        have P7 : Ap (wr.alloc (.cells #[.int .u8 0, .int .u8 0, .int .u8 0, .int .u8 0] 5)) wr.heap.size (.slice (some ⟨wr.heap.size, 0, none⟩) 4 4) [0, 0, 0, 0] v := Ap.new H6.out.wa (own_lit4 wr)
        have HAd : Hid _ := ⟨add_any S7.wa (Nat.le_trans hL15 (by decide)) P7.own P7.ap (by decide) S7.bel.size⟩
        have HS7 : Hid _ := ⟨S7⟩
        clear S7 P7 b7
        go_upto_region 23 with
          (go_at_call 42; (with_reducible refine HAd.out.mono ?_); rintro e w8 ⟨he, v8, ha8, hk8⟩; subst he; have H8 : Hid (WS w1 w8 c.length addr vs f (L ++ [0, 0, 0, 0]) A v8) := ⟨HS7.out.wk hk8 ha8⟩; clear ha8 hk8)
        have k1 := H8.out.wa.bk.cell 1 rfl
        have k2 := H8.out.wa.bk.cell 2 rfl
        obtain ⟨L4, hL4⟩ : ∃ L4, L ++ [0, 0, 0, 0] = L4 := ⟨_, rfl⟩
        rw [hL4] at k1 H8
        have HL4 : Hid (L ++ endB true = L4) := ⟨hL4⟩
        clear hL4
        by_cases hbig : 1048576 < L4.length
        · have hb1 : (1048576 : Int) < (L4.length : Int) := by omega
          go_wp2
          go_ret3
          have e : wriT true (runM addr c f c.length) = (6, [], []) := by rw [HRn.out]; exact wriT_big (by rw [HL4.out]; exact hbig)
          rw [e]
          exact WrEnd.bad (HB1.out.trans (H8.out.bel.mono HB1.out.size))
        · have hb1 : ¬ (1048576 : Int) < (L4.length : Int) := by omega
          go_wp2
          go_ret3
          have e : wriT true (runM addr c f c.length) = (0, L ++ endB true, A) := by rw [HRn.out]; exact wriT_ok (by rw [HL4.out]; exact hbig)
          rw [HL4.out] at e
          rw [e]
          obtain ⟨M, hM, hML, _⟩ := H8.out.wa.own
          rw [hML (by omega)] at hM
          have hat := own_at (base := w.heap.size) H8.out.at' (Nat.le_trans HB1.out.size (Nat.le_succ _)) hA4
          rw [H8.out.len] at hat
          exact ⟨_, _, rfl, Own.lowE hM HB1.out.size, hat, HB1.out.trans (H8.out.bel.mono HB1.out.size)⟩
end Go.Proofs.YtomboebfbipaaaaDoor
