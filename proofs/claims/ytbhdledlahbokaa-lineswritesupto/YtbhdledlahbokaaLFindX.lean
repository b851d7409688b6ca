/- The row of an address: the program's Find. The program's Find. -/
import Derived.Test.YtbhdledlahbokaaLRead
import Derived.BigQuiet
namespace Go.Proofs.Ytbhdledlahbokaa
open Go.ChangeShapes Go.WideShapes Go.ChangeAt Go.RowKit Go.Conc
set_option linter.unusedVariables false
set_option linter.unusedSimpArgs false

def fileV (l : List ByteArray) (f : Int) : ByteArray := if inB f 1 (l.length : Int) then l.getD (f - 1).toNat ByteArray.empty else ⟨#[]⟩
/-- Does the sequence have the address? -/
def hasB (q : Sq) (addr : Int) : Bool := decide (q.st ≤ addr) && (decide (0 < q.sz) && decide (addr - q.st < q.sz))
def rowM (q : Sq) (addr : Int) : Option Lr := if hasB q addr then q.rows.reverse.find? (fun r => decide (r.at' ≤ addr - q.st)) else none
def pgFind (p : Pg) (addr : Int) : Option Lr := p.seqs.findSome? (fun q => rowM q addr)
def findM (l : List Pg) (addr : Int) : Option (ByteArray × Lr) := l.findSome? (fun p => (pgFind p addr).map (fun r => (fileV p.files r.fi, r)))

theorem fileOf_any (fa sa : Option Addr) (fc ns sc : Nat) (l : List ByteArray) (r : Lr) (w : World) (h : Strs w fa l) (hl : l.length ≤ 140737488355328) :
    Calls Try.prog 33 #[.agg #[.slice fa l.length fc, .slice sa ns sc], .agg #[.int .i64 r.at', .int .i64 r.fi, .int .i64 r.li, .int .i64 r.co]] w fun e w' => e = .returned (.string (fileV l r.fi)) ∧ Below w.heap.size w w' := by
  have HI : Hid _ := ⟨within_any r.fi 1 (l.length : Int)⟩
  have HV : Hid (fileV l r.fi = if inB r.fi 1 (l.length : Int) then l.getD (r.fi - 1).toNat ByteArray.empty else ⟨#[]⟩) := ⟨rfl⟩
  generalize fileV l r.fi = V at *
  have HB : Hid (Below w.heap.size w ((w.alloc (.cells #[.slice fa l.length fc, .slice sa ns sc] 28)).alloc (.cells #[.int .i64 r.at', .int .i64 r.fi, .int .i64 r.li, .int .i64 r.co] 47))) := ⟨((Below.refl _ w).alloc (Nat.le_refl _) _).alloc (by simp) _⟩
  cases hb : inB r.fi 1 (l.length : Int)
  · rw [hb] at HI HV
    obtain rfl : V = ⟨#[]⟩ := HV.out
    go_enter Try.func33, Try.ntmps33
    go_wp2_with (go_at_call 45; (with_reducible refine (HI.out _).mono ?_); rintro e wn ⟨he, hwn⟩; subst he; subst wn)
    go_ret
    exact ⟨rfl, HB.out⟩
  · rw [hb] at HI HV
    have h1 := inB_of hb
    obtain ⟨k, hk⟩ : ∃ k : Nat, r.fi - 1 = (k : Int) := ⟨(r.fi - 1).toNat, by omega⟩
    have hV : V = l.getD k ByteArray.empty := by rw [HV.out, hk]; rfl
    have hlt : k < l.length := by omega
    obtain ⟨b, off, rfl, hc⟩ : ∃ b off, fa = some ⟨b, off, none⟩ ∧ ∀ j, j < l.length → w.cell? ⟨b, off + j, none⟩ = some (.string (l.getD j ByteArray.empty)) := by
      rcases h with h | h
      · omega
      · exact h
    have c0 := up_belL (hc k hlt) HB.out
    rw [← hV] at c0
    have q0 : (0 : Int) ≤ (k : Int) := by omega
    have q1 : (k : Int) < (l.length : Int) := by omega
    have hw : wrap64 (r.fi - 1) = (k : Int) := by rw [hk]; exact w64_id (by omega)
    clear h hc HV hV hk h1 hb
    go_enter Try.func33, Try.ntmps33
    go_wp2_with (go_at_call 45; (with_reducible refine (HI.out _).mono ?_); rintro e wn ⟨he, hwn⟩; subst he; subst wn)
    go_ret
    exact ⟨rfl, HB.out⟩

theorem res_row {fn : Func} {q u : Tmp} (h : fn.results = #[.cell q 47, .tmp u]) (tmps : Array Value) (w : World) (g : Nat) (cs : Array Value) (v : Value) (hs : cs.size = 4) (hp : tmps.getD q undef = .pointer (some ⟨g, 0, none⟩)) (hg : w.heap[g]? = some (.cells cs 47 (0, 0))) (hu : tmps.getD u undef = v) :
    (results fn tmps).run Try.prog w = .ok (.tuple #[.agg cs, v]) w := by
  rw [results_cell_tmp h, hp, hu]
  have hl := run_loadVar_row (P := Try.prog) w g 47 47 cs (0, 0) _ hg Try.underlying47 rfl (by rw [sizeRowL, hs])
  simp [asAddr, hl, Result.andThen]
theorem find_rev (l : List Lr) (p : Lr → Bool) (k : Nat) (hk : k < l.length) (h1 : p (l.getD k Lr.zero) = true) (h2 : ∀ i, k + 1 ≤ i → i < l.length → p (l.getD i Lr.zero) = false) : l.reverse.find? p = some (l.getD k Lr.zero) := by
  have e : l = l.take k ++ l.getD k Lr.zero :: l.drop (k + 1) := by
    rw [show l.getD k Lr.zero = l[k] by simp [hk], ← List.drop_eq_getElem_cons hk, List.take_append_drop]
  have hn : (l.drop (k + 1)).reverse.find? p = none := by
    rw [List.find?_eq_none]
    intro x hx
    obtain ⟨i, hi, rfl⟩ := List.mem_iff_getElem.1 (List.mem_reverse.1 hx)
    have hi' : k + 1 + i < l.length := by simp at hi; omega
    have := h2 (k + 1 + i) (by omega) hi'
    rw [show l.getD (k + 1 + i) Lr.zero = l[k + 1 + i] by simp [hi']] at this
    simp [this]
  generalize l.getD k Lr.zero = r at *
  rw [e, List.reverse_append, List.reverse_cons, List.append_assoc, List.find?_append, hn]
  simp [h1]
def rowOr (o : Option Lr) : Lr := o.getD Lr.zero
set_option maxRecDepth 20000 in
set_option maxHeartbeats 2000000 in
theorem rowOf_any (q : Sq) (ao : Option Addr) (c : Nat) (addr : Int) (w : World) (hr : Lrs w ao q.rows) (hl : q.rows.length ≤ 140737488355328) (ha : -9223372036854775808 ≤ addr ∧ addr ≤ 9223372036854775807) (hs : -9223372036854775808 ≤ q.st ∧ q.st ≤ 9223372036854775807) (hz : -9223372036854775808 ≤ q.sz ∧ q.sz ≤ 9223372036854775807) :
    Calls Try.prog 32 #[.agg #[.int .i64 q.st, .int .i64 q.sz, .slice ao q.rows.length c], .int .i64 addr] w fun e w' => e = .returned (.tuple #[.agg #[.int .i64 (rowOr (rowM q addr)).at', .int .i64 (rowOr (rowM q addr)).fi, .int .i64 (rowOr (rowM q addr)).li, .int .i64 (rowOr (rowM q addr)).co], .bool (rowM q addr).isSome]) ∧ Below w.heap.size w w' := by
  obtain ⟨st, sz, rows⟩ := q
  dsimp only at *
  obtain ⟨O, hO⟩ : ∃ O, rowM ⟨st, sz, rows⟩ addr = O := ⟨_, rfl⟩
  rw [hO]
  have HO : Hid _ := ⟨hO⟩
  have HR : Hid _ := ⟨hr⟩
  clear hO hr
  have HB : Hid (Below w.heap.size w ((w.alloc (.cells #[.int .i64 st, .int .i64 sz, .slice ao rows.length c] 63)).alloc (.cells #[.int .i64 0, .int .i64 0, .int .i64 0, .int .i64 0] 47))) := ⟨((Below.refl _ w).alloc (Nat.le_refl _) _).alloc (by simp) _⟩
  have HN4 : Hid (((w.alloc (.cells #[.int .i64 st, .int .i64 sz, .slice ao rows.length c] 63)).alloc (.cells #[.int .i64 0, .int .i64 0, .int .i64 0, .int .i64 0] 47)).heap[w.heap.size + 1]? = some (.cells #[.int .i64 0, .int .i64 0, .int .i64 0, .int .i64 0] 47 (0, 0))) := ⟨by
    have := heap_alloc_new (w.alloc (.cells #[.int .i64 st, .int .i64 sz, .slice ao rows.length c] 63)) (.cells #[.int .i64 0, .int .i64 0, .int .i64 0, .int .i64 0] 47)
    rwa [show (w.alloc (.cells #[.int .i64 st, .int .i64 sz, .slice ao rows.length c] 63)).heap.size = w.heap.size + 1 by simp] at this⟩
  by_cases h1 : addr < st
  · have : O = none := by rw [← HO.out]; unfold rowM hasB; simp [show ¬ st ≤ addr by omega]
    subst this
    go_enter Try.func32, Try.ntmps32
    go_wp2
    refine bodyPost_ret (v := .tuple #[.agg #[.int .i64 0, .int .i64 0, .int .i64 0, .int .i64 0], .bool false]) ?_ rfl ⟨rfl, HB.out⟩
    exact res_row (q := 4) (u := 5) (by kernel_rfl) _ _ (w.heap.size + 1) _ _ rfl (by kernel_rfl) HN4.out (by kernel_rfl)
  by_cases h2 : sz ≤ 0
  · have : O = none := by rw [← HO.out]; unfold rowM hasB; simp [show ¬ 0 < sz by omega]
    subst this
    go_enter Try.func32, Try.ntmps32
    go_wp2
    refine bodyPost_ret (v := .tuple #[.agg #[.int .i64 0, .int .i64 0, .int .i64 0, .int .i64 0], .bool false]) ?_ rfl ⟨rfl, HB.out⟩
    exact res_row (q := 4) (u := 5) (by kernel_rfl) _ _ (w.heap.size + 1) _ _ rfl (by kernel_rfl) HN4.out (by kernel_rfl)
  have hU : IntKind.u64.wrap (IntKind.u64.wrap addr - IntKind.u64.wrap st) = addr - st := by
    rw [IntKind.wrap_u64, IntKind.wrap_u64, IntKind.wrap_u64]; omega
  have hZ : IntKind.u64.wrap sz = sz := by rw [IntKind.wrap_u64]; omega
  by_cases h3 : sz ≤ addr - st
  · have : O = none := by rw [← HO.out]; unfold rowM hasB; simp [show ¬ addr - st < sz by omega]
    subst this
    go_enter Try.func32, Try.ntmps32
    go_wp2
    refine bodyPost_ret (v := .tuple #[.agg #[.int .i64 0, .int .i64 0, .int .i64 0, .int .i64 0], .bool false]) ?_ rfl ⟨rfl, HB.out⟩
    exact res_row (q := 4) (u := 5) (by kernel_rfl) _ _ (w.heap.size + 1) _ _ rfl (by kernel_rfl) HN4.out (by kernel_rfl)
  have HO2 : Hid (rows.reverse.find? (fun r => decide (r.at' ≤ addr - st)) = O) := ⟨by
    rw [← HO.out]; unfold rowM hasB
    simp [show st ≤ addr by omega, show 0 < sz by omega, show addr - st < sz by omega]⟩
  obtain ⟨D, hD⟩ : ∃ D, wrap64 (addr - st) = D := ⟨_, rfl⟩
  have hD' : addr - st = D := by rw [← hD]; exact (w64_id (by omega)).symm
  rw [hD'] at HO2
  have HK2 : Hid (Bk ((w.alloc (.cells #[.int .i64 st, .int .i64 sz, .slice ao rows.length c] 63)).alloc (.cells #[.int .i64 0, .int .i64 0, .int .i64 0, .int .i64 0] 47)) w.heap.size 63 #[.int .i64 st, .int .i64 sz, .slice ao rows.length c]) := ⟨(Bk.new w _ _).bel ((Below.refl _ _).alloc (Nat.le_refl _) _) (by simp)⟩
  have hn : (rows.length : Int) ≤ 140737488355328 := by omega
  clear HO hD' ha hs hz
  go_enter Try.func32, Try.ntmps32
  go_wp2
  generalize (w.alloc (.cells #[.int .i64 st, .int .i64 sz, .slice ao rows.length c] 63)).alloc (.cells #[.int .i64 0, .int .i64 0, .int .i64 0, .int .i64 0] 47) = V at *
  have HB4 : Hid (w.heap.size + 1 < V.heap.size) := ⟨(Array.getElem?_eq_some_iff.1 HN4.out).1⟩
  go_loopw [6] (fun iv wr => ∃ j : Nat, j ≤ rows.length ∧ iv = .int .i64 ((j : Int) - 1) ∧ Hid (Below V.heap.size V wr ∧ ∀ i, j ≤ i → i < rows.length → ¬ (rows.getD i Lr.zero).at' ≤ D)) (fun iv _ => ((intOf iv) + 1).toNat)
  case atStart => exact ⟨rows.length, by omega, rfl, ⟨Below.refl _ _, fun i h1 h2 => by omega⟩⟩
  case round =>
    obtain ⟨j, hj, rfl, HW⟩ := hrel
    have HBw : Hid (Below w.heap.size w wr) := ⟨HB.out.trans (HW.out.1.mono (by have := HB4.out; omega))⟩
    have HK4 : Hid (Bk wr (w.heap.size + 1) 47 #[.int .i64 0, .int .i64 0, .int .i64 0, .int .i64 0]) := ⟨(⟨HN4.out⟩ : Bk V (w.heap.size + 1) _ _).bel HW.out.1 HB4.out⟩
    cases j with
    | zero =>
      have : O = none := by
        rw [← HO2.out, List.find?_eq_none]
        intro x hx
        obtain ⟨i, hi, rfl⟩ := List.mem_iff_getElem.1 (List.mem_reverse.1 hx)
        have := HW.out.2 i (by omega) hi
        simp [hi] at this
        simp; omega
      subst this
      go_wp2_with (refine wpList_part (g := w.heap.size + 1) (off := 0) (val := .agg #[.int .i64 0, .int .i64 0, .int .i64 0, .int .i64 0]) (new := #[.int .i64 0, .int .i64 0, .int .i64 0, .int .i64 0]) rfl rfl (by rfl) (by rfl) HK4.out (by rw [sizeRowL]; rfl) (by show 0 + 4 ≤ 4; omega) (one4 _ _ _ _) rfl ?_)
      refine bodyPost_ret (v := .tuple #[.agg #[.int .i64 0, .int .i64 0, .int .i64 0, .int .i64 0], .bool false]) ?_ rfl ⟨rfl, HBw.out.trans ⟨rfl, rfl, rfl, by simp, fun k hk => setRow_other _ _ k _ (by omega)⟩⟩
      exact res_row (q := 4) (u := 5) (by kernel_rfl) _ _ (w.heap.size + 1) _ _ rfl (by kernel_rfl) ((HK4.out.setR _).hp) (by kernel_rfl)
    | succ k =>
      have hlt : k < rows.length := by omega
      obtain ⟨b, off, rfl, hat⟩ : ∃ b off, ao = some ⟨b, off, none⟩ ∧ ∀ j, j < rows.length → LrAt wr b (off + j * 4) (rows.getD j Lr.zero) := by
        rcases HR.out.bel HBw.out with h | h
        · omega
        · exact h
      have q1 : (k : Int) < (rows.length : Int) := by omega
      have q0 : (0 : Int) ≤ (k : Int) := by omega
      obtain ⟨c0, c1, c2, c3⟩ := hat k hlt
      clear hat
      have K2 := HK2.out.bel HW.out.1 (by have := HB4.out; omega)
      have d0 : wr.cell? ⟨w.heap.size, 0, none⟩ = some (.int .i64 st) := K2.cell 0 rfl; have d2 : wr.cell? ⟨w.heap.size, 2, none⟩ = some (.slice (some ⟨b, off, none⟩) rows.length c) := K2.cell 2 rfl
      clear K2
      have HF : Hid ((rows.getD k Lr.zero).at' ≤ D → O = some (rows.getD k Lr.zero)) := ⟨fun h => by
        rw [← HO2.out]
        exact find_rev rows _ k hlt (by simpa using h) (fun i h1 h2 => by simpa using HW.out.2 i h1 h2)⟩
      have HG : Hid (¬ (rows.getD k Lr.zero).at' ≤ D → ∀ i, k ≤ i → i < rows.length → ¬ (rows.getD i Lr.zero).at' ≤ D) := ⟨fun h i h1 h2 => by
        by_cases hik : i = k
        · rw [hik]; exact h
        · exact HW.out.2 i (by omega) h2⟩
      have HW1 : Hid _ := ⟨HW.out.1⟩
      clear HW HO2
      rw [show ((k + 1 : Nat) : Int) - 1 = (k : Int) by omega]
      obtain ⟨r, hr⟩ : ∃ r, rows.getD k Lr.zero = r := ⟨_, rfl⟩
      rw [hr] at HF HG c0 c1 c2 c3
      by_cases hle : r.at' ≤ D
      · have : O = some r := HF.out hle
        subst this
        clear HF HG hr
        have HK5 : Hid (∀ n, Bk (wr.drewN n) (w.heap.size + 1) 47 #[.int .i64 0, .int .i64 0, .int .i64 0, .int .i64 0]) := ⟨fun n => HK4.out.of (by simp)⟩
        go_wp2
        go_quiet (fail)
        go_wp2_with (refine wpList_part (g := w.heap.size + 1) (off := 0) (val := .agg #[.int .i64 r.at', .int .i64 r.fi, .int .i64 r.li, .int .i64 r.co]) (new := #[.int .i64 r.at', .int .i64 r.fi, .int .i64 r.li, .int .i64 r.co]) rfl rfl (by rfl) (by rfl) (HK5.out _) (by rw [sizeRowL]; rfl) (by show 0 + 4 ≤ 4; omega) (one4 _ _ _ _) rfl ?_)
        refine bodyPost_ret (v := .tuple #[.agg #[.int .i64 r.at', .int .i64 r.fi, .int .i64 r.li, .int .i64 r.co], .bool true]) ?_ rfl ⟨rfl, (below_drewN HBw.out _).trans ⟨rfl, rfl, rfl, by simp, fun k hk => setRow_other _ _ k _ (by omega)⟩⟩
        exact res_row (q := 4) (u := 5) (by kernel_rfl) _ _ (w.heap.size + 1) _ _ rfl (by kernel_rfl) (((HK5.out _).setR _).hp) (by kernel_rfl)
      · have HG2 : Hid _ := ⟨HG.out hle⟩
        clear HF HG
        go_wp2
        go_quiet (fail)
        go_wp2
        go_roundw
        case rel => exact ⟨k, by omega, by go_num, ⟨below_drewN HW1.out _, fun i a b => Int.not_le.2 (HG2.out i a b)⟩⟩
        case measure => simp [intOf]

def pg0 : Pg := ⟨[], []⟩
/-- A program that lies in memory. -/
def PgAt (w : World) (b off : Nat) (p : Pg) : Prop := ∃ fa fc sa sc, w.cell? ⟨b, off, none⟩ = some (.slice fa p.files.length fc) ∧ w.cell? ⟨b, off + 1, none⟩ = some (.slice sa p.seqs.length sc) ∧ PgIn w fa sa p
theorem PgAt.bel {w w' : World} {b off : Nat} {p : Pg} (h : PgAt w b off p) (hb : Below w.heap.size w w') : PgAt w' b off p := by
  obtain ⟨fa, fc, sa, sc, h1, h2, h3⟩ := h
  exact ⟨fa, fc, sa, sc, up_belL h1 hb, up_belL h2 hb, h3.bel hb⟩
def Pgs (w : World) (ao : Option Addr) (l : List Pg) : Prop := l.length = 0 ∨ ∃ b off, ao = some ⟨b, off, none⟩ ∧ ∀ i, i < l.length → PgAt w b (off + i * 2) (l.getD i pg0)
theorem Pgs.bel {w w' : World} {ao : Option Addr} {l : List Pg} (h : Pgs w ao l) (hb : Below w.heap.size w w') : Pgs w' ao l := by
  rcases h with h | ⟨b, off, e, h⟩
  · exact .inl h
  · exact .inr ⟨b, off, e, fun i hi => (h i hi).bel hb⟩
theorem some_at {α β : Type} (f : α → Option β) (l : List α) (d : α) (k : Nat) (hk : k < l.length) {x : β} (h0 : (l.take k).findSome? f = none) (h : f (l.getD k d) = some x) : l.findSome? f = some x := by
  have e : l = l.take k ++ l.getD k d :: l.drop (k + 1) := by
    rw [show l.getD k d = l[k] by simp [hk], ← List.drop_eq_getElem_cons hk, List.take_append_drop]
  generalize l.getD k d = r at *
  rw [e, List.findSome?_append, h0]
  simp [h]
theorem some_next {α β : Type} (f : α → Option β) (l : List α) (d : α) (k : Nat) (hk : k < l.length) (h0 : (l.take k).findSome? f = none) (h : f (l.getD k d) = none) : (l.take (k + 1)).findSome? f = none := by
  have e : l.take (k + 1) = l.take k ++ [l.getD k d] := by rw [List.take_add_one]; simp [hk]
  generalize l.getD k d = r at *
  rw [e, List.findSome?_append, h0]
  simp [h]
def BndQ (q : Sq) : Prop := (-9223372036854775808 ≤ q.st ∧ q.st ≤ 9223372036854775807) ∧ -9223372036854775808 ≤ q.sz ∧ q.sz ≤ 9223372036854775807
def pf (addr : Int) (p : Pg) : Option (ByteArray × Lr) := (pgFind p addr).map (fun r => (fileV p.files r.fi, r))
def nameOr (o : Option (ByteArray × Lr)) : ByteArray := (o.map Prod.fst).getD ⟨#[]⟩
def rowV (r : Lr) : Value := .agg #[.int .i64 r.at', .int .i64 r.fi, .int .i64 r.li, .int .i64 r.co]
theorem findM_pf (l : List Pg) (addr : Int) : findM l addr = l.findSome? (pf addr) := rfl
theorem res_find {fn : Func} {p q s : Tmp} (h : fn.results = #[.tmp p, .cell q 47, .tmp s]) (tmps : Array Value) (w : World) (v z : Value) (g : Nat) (cs : Array Value) (hs : cs.size = 4) (hv : tmps.getD p undef = v) (hp : tmps.getD q undef = .pointer (some ⟨g, 0, none⟩)) (hz : tmps.getD s undef = z) (hg : w.heap[g]? = some (.cells cs 47 (0, 0))) :
    (results fn tmps).run Try.prog w = .ok (.tuple #[v, .agg cs, z]) w := by
  have hl := run_loadVar_row (P := Try.prog) w g 47 47 cs (0, 0) _ hg Try.underlying47 rfl (by rw [sizeRowL, hs])
  have hp' : tmps[q]?.getD undef = .pointer (some ⟨g, 0, none⟩) := by simpa using hp
  have hv' : tmps[p]?.getD undef = v := by simpa using hv
  have hz' : tmps[s]?.getD undef = z := by simpa using hz
  simp [results, h, hp', hv', hz', asAddr, hl]

theorem Bk.loadRow {w : World} {g : Nat} {cs : Array Value} (h : Bk w g 47 cs) (hs : cs.size = 4) : (loadVar 47 ⟨g, 0, none⟩).run Try.prog w = .ok (.agg cs) w :=
  run_loadVar_row (P := Try.prog) w g 47 47 cs (0, 0) _ h.hp Try.underlying47 rfl (by rw [sizeRowL, hs])
theorem Bk.loadPg {w : World} {g : Nat} {cs : Array Value} (h : Bk w g 28 cs) (hs : cs.size = 2) : (loadVar 28 ⟨g, 0, none⟩).run Try.prog w = .ok (.agg cs) w :=
  run_loadVar_row (P := Try.prog) w g 28 28 cs (0, 0) _ h.hp Try.underlying28 rfl (by rw [sizePg, hs])

set_option maxRecDepth 20000 in
set_option maxHeartbeats 2000000 in
theorem find_any (l : List Pg) (ao : Option Addr) (c : Nat) (addr : Int) (w : World) (h : Pgs w ao l) (hl : l.length ≤ 140737488355328) (ha : -9223372036854775808 ≤ addr ∧ addr ≤ 9223372036854775807) (hbd : ∀ p ∈ l, ∀ q ∈ p.seqs, BndQ q) :
    Calls Try.prog 16 #[.slice ao l.length c, .int .i64 addr] w fun e w' => e = .returned (.tuple #[.string (nameOr (findM l addr)), rowV (rowOr ((findM l addr).map Prod.snd)), .bool (findM l addr).isSome]) ∧ Below w.heap.size w w' := by
  obtain ⟨O, hO⟩ : ∃ O, findM l addr = O := ⟨_, rfl⟩
  rw [hO]
  rw [findM_pf] at hO
  have HO : Hid _ := ⟨hO⟩
  have HP : Hid _ := ⟨h⟩
  have HA : Hid _ := ⟨ha⟩
  have HBd : Hid _ := ⟨hbd⟩
  clear hO h ha hbd
  have HK : Hid (Bk (w.alloc (.cells #[.int .i64 0, .int .i64 0, .int .i64 0, .int .i64 0] 47)) w.heap.size 47 #[.int .i64 0, .int .i64 0, .int .i64 0, .int .i64 0]) := ⟨Bk.new _ _ _⟩
  have HB : Hid (Below w.heap.size w (w.alloc (.cells #[.int .i64 0, .int .i64 0, .int .i64 0, .int .i64 0] 47))) := ⟨(Below.refl _ w).alloc (Nat.le_refl _) _⟩
  have hn : (l.length : Int) ≤ 140737488355328 := by omega
  go_enter Try.func16, Try.ntmps16
  go_wp2
  generalize w.alloc (.cells #[.int .i64 0, .int .i64 0, .int .i64 0, .int .i64 0] 47) = V at *
  have HV : Hid (w.heap.size < V.heap.size) := ⟨HK.out.lt⟩
  go_loopw [15] (fun iv wr => ∃ k : Nat, k ≤ l.length ∧ iv = .int .i64 k ∧ Hid (Below V.heap.size V wr ∧ (l.take k).findSome? (pf addr) = none)) (fun iv _ => l.length - (intOf iv).toNat)
  case atStart => exact ⟨0, by omega, rfl, ⟨Below.refl _ _, by simp⟩⟩
  case round =>
    obtain ⟨k, hk, rfl, HW⟩ := hrel
    have HBw : Hid (Below w.heap.size w wr) := ⟨HB.out.trans (HW.out.1.mono (Nat.le_of_lt HV.out))⟩
    by_cases hlt : k < l.length
    · obtain ⟨b, off, rfl, hat⟩ : ∃ b off, ao = some ⟨b, off, none⟩ ∧ ∀ j, j < l.length → PgAt wr b (off + j * 2) (l.getD j pg0) := by
        rcases HP.out.bel HBw.out with h | h
        · omega
        · exact h
      have q1 : (k : Int) < (l.length : Int) := by omega
      have q0 : (0 : Int) ≤ (k : Int) := by omega
      obtain ⟨fa, fc, sa, sc, c0, c1, hin⟩ := hat k hlt
      clear hat
      have HBq : Hid (∀ q ∈ (l.getD k pg0).seqs, BndQ q) := ⟨HBd.out _ (by simp [hlt])⟩
      have HSm : Hid (∀ x, pf addr (l.getD k pg0) = some x → O = some x) := ⟨fun x hx => by rw [← HO.out]; exact some_at _ l pg0 k hlt HW.out.2 hx⟩
      have HSn : Hid (pf addr (l.getD k pg0) = none → (l.take (k + 1)).findSome? (pf addr) = none) := ⟨fun hx => some_next _ l pg0 k hlt HW.out.2 hx⟩
      generalize l.getD k pg0 = p at *
      obtain ⟨files, seqs⟩ := p
      dsimp only at *
      have hsl : (seqs.length : Int) ≤ 140737488355328 := by have := hin.sl; dsimp only at this; omega
      have HI : Hid _ := ⟨hin⟩
      have HW1 : Hid (Below V.heap.size V wr) := ⟨HW.out.1⟩
      have HB1 : Hid (Below wr.heap.size wr (wr.alloc (.cells #[.slice fa files.length fc, .slice sa seqs.length sc] 28))) := ⟨(Below.refl _ _).alloc (Nat.le_refl _) _⟩
      have HK1 : Hid (Bk (wr.alloc (.cells #[.slice fa files.length fc, .slice sa seqs.length sc] 28)) wr.heap.size 28 #[.slice fa files.length fc, .slice sa seqs.length sc]) := ⟨Bk.new _ _ _⟩
      clear hin HW
      go_wp2
      generalize wr.alloc (.cells #[.slice fa files.length fc, .slice sa seqs.length sc] 28) = V1 at *
      have HV1 : Hid (wr.heap.size < V1.heap.size) := ⟨HK1.out.lt⟩
      clear c0 c1
      generalize wr = wo at *
      go_loopw [22] (fun iv wi => ∃ j : Nat, j ≤ seqs.length ∧ iv = .int .i64 j ∧ Hid (Below V1.heap.size V1 wi ∧ (seqs.take j).findSome? (fun q => rowM q addr) = none)) (fun iv _ => seqs.length - (intOf iv).toNat)
      case atStart => exact ⟨0, by omega, rfl, ⟨Below.refl _ _, by simp⟩⟩
      case round =>
        obtain ⟨j, hj, rfl, HX⟩ := hrel
        have HBv : Hid (Below wo.heap.size wo wr) := ⟨HB1.out.trans (HX.out.1.mono (Nat.le_of_lt HV1.out))⟩
        have HBV : Hid (Below V.heap.size V wr) := ⟨HW1.out.trans (HBv.out.mono HW1.out.size)⟩
        have HKp : Hid (Bk wr wo.heap.size 28 #[.slice fa files.length fc, .slice sa seqs.length sc]) := ⟨HK1.out.bel HX.out.1 HV1.out⟩
        have HKr : Hid (Bk wr w.heap.size 47 #[.int .i64 0, .int .i64 0, .int .i64 0, .int .i64 0]) := ⟨HK.out.bel HBV.out HV.out⟩
        by_cases hjl : j < seqs.length
        · obtain ⟨b2, off2, rfl, hat⟩ : ∃ b off, sa = some ⟨b, off, none⟩ ∧ ∀ j, j < seqs.length → SqAt wr b (off + j * 3) (seqs.getD j Sq.zero) := by
            rcases HI.out.sq.bel HBv.out with h | h
            · dsimp only at h; omega
            · exact h
          have r1 : (j : Int) < (seqs.length : Int) := by omega
          have r0 : (0 : Int) ≤ (j : Int) := by omega
          obtain ⟨ra, rc, c0, c1, c2, hLr⟩ := hat j hjl
          clear hat
          have hq := HBq.out _ (sq_in hjl)
          have hsh := HI.out.sh _ (sq_in hjl)
          have HRm : Hid (∀ r, rowM (seqs.getD j Sq.zero) addr = some r → O = some (fileV files r.fi, r)) := ⟨fun r hr => HSm.out _ (by
            show (pgFind ⟨files, seqs⟩ addr).map _ = _
            rw [show pgFind ⟨files, seqs⟩ addr = some r from some_at _ seqs Sq.zero j hjl HX.out.2 hr]; rfl)⟩
          have HRn : Hid (rowM (seqs.getD j Sq.zero) addr = none → (seqs.take (j + 1)).findSome? (fun q => rowM q addr) = none) := ⟨fun hx => some_next _ seqs Sq.zero j hjl HX.out.2 hx⟩
          generalize seqs.getD j Sq.zero = q at *
          have HRw : Hid (∀ W, Below wr.heap.size wr W → Calls Try.prog 32 #[.agg #[.int .i64 q.st, .int .i64 q.sz, .slice ra q.rows.length rc], .int .i64 addr] W fun e w' => e = .returned (.tuple #[.agg #[.int .i64 (rowOr (rowM q addr)).at', .int .i64 (rowOr (rowM q addr)).fi, .int .i64 (rowOr (rowM q addr)).li, .int .i64 (rowOr (rowM q addr)).co], .bool (rowM q addr).isSome]) ∧ Below W.heap.size W w') := ⟨fun W hW => rowOf_any q ra rc addr W (hLr.bel hW) hsh HA.out hq.1 hq.2⟩
          have HB2 : Hid (Below wr.heap.size wr (wr.alloc (.cells #[.int .i64 q.st, .int .i64 q.sz, .slice ra q.rows.length rc] 63))) := ⟨(Below.refl _ _).alloc (Nat.le_refl _) _⟩
          clear hLr hq hsh
          generalize rowM q addr = R at *
          cases R with
          | none =>
            have HNx : Hid _ := ⟨HRn.out rfl⟩
            clear HRn HRm
            go_wp2_with (go_at_call 32; (with_reducible refine (HRw.out _ HB2.out).mono ?_); rintro e w2 ⟨he, hb2⟩; subst he; have HB3 : Hid _ := ⟨hb2⟩; clear hb2)
            go_roundw
            case rel => exact ⟨j + 1, hjl, by go_num, ⟨HX.out.1.trans (((HB2.out.trans (HB3.out.mono HB2.out.size)).alloc (Nat.le_trans HB2.out.size HB3.out.size) _).mono HX.out.1.size), HNx.out⟩⟩
            case measure => simp [intOf]; omega
          | some r =>
            simp only [rowOr, Option.getD_some, Option.isSome_some] at HRw
            have : O = some (fileV files r.fi, r) := HRm.out r rfl
            subst this
            clear HRn HRm
            go_upto_region 9 with (go_at_call 32; (with_reducible refine (HRw.out _ HB2.out).mono ?_); rintro e w2 ⟨he, hb2⟩; subst he; have HB3 : Hid _ := ⟨hb2⟩; clear hb2)
            have HBq2 : Hid (Below wr.heap.size wr w2) := ⟨HB2.out.trans (HB3.out.mono HB2.out.size)⟩
            have HBx : Hid (Below wr.heap.size wr (w2.alloc (.cells #[.int .i64 r.at', .int .i64 r.fi, .int .i64 r.li, .int .i64 r.co] 47)).drew) := ⟨(HBq2.out.alloc HBq2.out.size _).drew⟩
            have HKn : Hid (Bk (w2.alloc (.cells #[.int .i64 r.at', .int .i64 r.fi, .int .i64 r.li, .int .i64 r.co] 47)).drew w2.heap.size 47 #[.int .i64 r.at', .int .i64 r.fi, .int .i64 r.li, .int .i64 r.co]) := ⟨(Bk.new w2 #[.int .i64 r.at', .int .i64 r.fi, .int .i64 r.li, .int .i64 r.co] 47).of rfl⟩
            have HKp2 : Hid (Bk (w2.alloc (.cells #[.int .i64 r.at', .int .i64 r.fi, .int .i64 r.li, .int .i64 r.co] 47)).drew wo.heap.size 28 #[.slice fa files.length fc, .slice (some ⟨b2, off2, none⟩) seqs.length sc]) := ⟨HKp.out.bel HBx.out HKp.out.lt⟩
            have HKr2 : Hid (Bk (w2.alloc (.cells #[.int .i64 r.at', .int .i64 r.fi, .int .i64 r.li, .int .i64 r.co] 47)).drew w.heap.size 47 #[.int .i64 0, .int .i64 0, .int .i64 0, .int .i64 0]) := ⟨HKr.out.bel HBx.out HKr.out.lt⟩
            have hne1 : wo.heap.size ≠ w.heap.size := by have := HV.out; have := HW1.out.size; omega
            have hne2 : w2.heap.size ≠ w.heap.size := by have := HKr.out.lt; have := HBq2.out.size; omega
            have HFl : Hid (∀ W, Below wr.heap.size wr W → Calls Try.prog 33 #[.agg #[.slice fa files.length fc, .slice (some ⟨b2, off2, none⟩) seqs.length sc], .agg #[.int .i64 r.at', .int .i64 r.fi, .int .i64 r.li, .int .i64 r.co]] W fun e w' => e = .returned (.string (fileV files r.fi)) ∧ Below W.heap.size W w') := ⟨fun W hW => fileOf_any fa (some ⟨b2, off2, none⟩) fc seqs.length sc files r W (HI.out.fs.bel (HBv.out.trans (hW.mono HBv.out.size))) HI.out.fl⟩
            refine wp_region_held_drew (S := fun u => (loadVar 28 ⟨wo.heap.size, 0, none⟩).run Try.prog u = .ok (.agg #[.slice fa files.length fc, .slice (some ⟨b2, off2, none⟩) seqs.length sc]) u ∧ (loadVar 47 ⟨w2.heap.size, 0, none⟩).run Try.prog u = .ok (.agg #[.int .i64 r.at', .int .i64 r.fi, .int .i64 r.li, .int .i64 r.co]) u) (by kernel_rfl) ⟨HKp2.out.loadPg rfl, HKn.out.loadRow rfl⟩ (fun hS => ?_)
            generalize (w2.alloc (.cells #[.int .i64 r.at', .int .i64 r.fi, .int .i64 r.li, .int .i64 r.co] 47)).drew = W at *
            refine wpAnyH_take (i := 0) (v := .agg #[.slice fa files.length fc, .slice (some ⟨b2, off2, none⟩) seqs.length sc]) rfl (by kernel_rfl) (by kernel_rfl) (by kernel_rfl) (fun _ _ _ h => h) (Or.inl ⟨by kernel_rfl, fun u hu => exec_loadV (t := 28) (p := ⟨wo.heap.size, 0, none⟩) rfl (by kernel_rfl) hu.1⟩) hS ?_
            simp only [Act.put, List.getElem_toArray, List.getElem_cons_succ, List.getElem_cons_zero, List.setIfInBounds_toArray, List.set_cons_zero, List.set_cons_succ]
            refine wpAnyH_take (i := 1) (v := .agg #[.int .i64 r.at', .int .i64 r.fi, .int .i64 r.li, .int .i64 r.co]) rfl (by kernel_rfl) (by kernel_rfl) (by kernel_rfl) (fun _ _ _ h => h) (Or.inl ⟨by kernel_rfl, fun u hu => exec_loadV (t := 47) (p := ⟨w2.heap.size, 0, none⟩) rfl (by kernel_rfl) hu.2⟩) hS ?_
            simp only [Act.put, List.getElem_toArray, List.getElem_cons_succ, List.getElem_cons_zero, List.setIfInBounds_toArray, List.set_cons_zero, List.set_cons_succ]
            refine wpAnyH_take (i := 3) (v := .agg #[.int .i64 r.at', .int .i64 r.fi, .int .i64 r.li, .int .i64 r.co]) rfl (by kernel_rfl) (by kernel_rfl) (by kernel_rfl) (fun _ _ _ h => h) (Or.inl ⟨by kernel_rfl, fun u hu => exec_loadV (t := 47) (p := ⟨w2.heap.size, 0, none⟩) rfl (by kernel_rfl) hu.2⟩) hS ?_
            simp only [Act.put, List.getElem_toArray, List.getElem_cons_succ, List.getElem_cons_zero, List.setIfInBounds_toArray, List.set_cons_zero, List.set_cons_succ]
            refine wpAnyH_ready (rs := [2]) (by kernel_rfl) (by simp) ?_
            refine AllReadyH.cons rfl (fun K hK => ?_) AllReadyH.nil
            simp only [List.getElem_toArray, List.getElem_cons_succ, List.getElem_cons_zero]
            refine wp_if (by kernel_rfl) ?_
            refine wp_enter (f := 33) (args := #[.agg #[.slice fa files.length fc, .slice (some ⟨b2, off2, none⟩) seqs.length sc], .agg #[.int .i64 r.at', .int .i64 r.fi, .int .i64 r.li, .int .i64 r.co]]) (by kernel_rfl) (HFl.out W HBx.out) ?_
            rintro e u ⟨rfl, hu⟩
            refine ⟨_, rfl, ?_⟩
            have HKn3 := HKn.out.bel hu HKn.out.lt
            have HKp3 := HKp2.out.bel hu HKp2.out.lt
            have HKr3 := HKr2.out.bel hu HKr2.out.lt
            refine hK.out _ _ ⟨HKp3.loadPg rfl, HKn3.loadRow rfl⟩ (fun hS => ?_)
            clear hK
            simp only [Act.put, List.getElem_toArray, List.getElem_cons_succ, List.getElem_cons_zero, List.setIfInBounds_toArray, List.set_cons_zero, List.set_cons_succ]
            refine wpAnyH_take (i := 4) (v := .string (fileV files r.fi)) rfl (by kernel_rfl) (by kernel_rfl) (by kernel_rfl) (fun _ _ _ h => h) (Or.inl ⟨by kernel_rfl, fun u hu => by kernel_rfl⟩) hS ?_
            simp only [Act.put, List.getElem_toArray, List.getElem_cons_succ, List.getElem_cons_zero, List.setIfInBounds_toArray, List.set_cons_zero, List.set_cons_succ]
            refine wpAnyH_ready (rs := [5]) (by kernel_rfl) (by simp) ?_
            refine AllReadyH.cons rfl (fun K hK => ?_) AllReadyH.nil
            simp only [List.getElem_toArray, List.getElem_cons_succ, List.getElem_cons_zero]
            refine wp_if (by kernel_rfl) ?_
            refine wp_part (g := w.heap.size) (off := 0) (val := .agg #[.int .i64 r.at', .int .i64 r.fi, .int .i64 r.li, .int .i64 r.co]) (new := #[.int .i64 r.at', .int .i64 r.fi, .int .i64 r.li, .int .i64 r.co]) rfl (by kernel_rfl) (by kernel_rfl) HKr3 (by rw [sizeRowL]; rfl) (by show 0 + 4 ≤ 4; omega) (one4 _ _ _ _) rfl ?_
            refine hK.out _ _ ⟨(HKp3.setO hne1 _).loadPg rfl, (HKn3.setO hne2 _).loadRow rfl⟩ (fun hS => ?_)
            clear hK
            simp only [Act.put, List.getElem_toArray, List.getElem_cons_succ, List.getElem_cons_zero, List.setIfInBounds_toArray, List.set_cons_zero, List.set_cons_succ]
            refine wpAnyH_take (i := 6) (v := .bool true) rfl (by kernel_rfl) (by kernel_rfl) (by kernel_rfl) (fun _ _ _ h => h) (Or.inl ⟨by kernel_rfl, fun u hu => by kernel_rfl⟩) hS ?_
            simp only [Act.put, List.getElem_toArray, List.getElem_cons_succ, List.getElem_cons_zero, List.setIfInBounds_toArray, List.set_cons_zero, List.set_cons_succ]
            refine wpAnyH_done (by kernel_rfl) ?_ _
            have HF4 : Hid _ := ⟨(HKr3.setR #[.int .i64 r.at', .int .i64 r.fi, .int .i64 r.li, .int .i64 r.co]).hp⟩
            have HFB : Hid (Below w.heap.size w u) := ⟨HBw.out.trans ((HBv.out.trans ((HBx.out.trans (hu.mono HBx.out.size)).mono HBv.out.size)).mono HBw.out.size)⟩
            clear hu hS HKn3 HKp3 HKr3
            go_wp2_with fail
            refine bodyPost_ret (v := .tuple #[.string (fileV files r.fi), .agg #[.int .i64 r.at', .int .i64 r.fi, .int .i64 r.li, .int .i64 r.co], .bool true]) ?_ rfl ⟨rfl, HFB.out.trans ⟨rfl, rfl, rfl, by simp, fun k hk => setRow_other _ _ k _ (by omega)⟩⟩
            exact res_find (p := 4) (q := 5) (s := 6) (by kernel_rfl) _ _ _ _ w.heap.size _ rfl (by kernel_rfl) (by kernel_rfl) (by kernel_rfl) HF4.out
        · obtain rfl : j = seqs.length := by omega
          have HNx : Hid _ := ⟨HSn.out (by
            show (pgFind ⟨files, seqs⟩ addr).map _ = _
            rw [show pgFind ⟨files, seqs⟩ addr = none by have := HX.out.2; rwa [List.take_of_length_le (Nat.le_refl _)] at this]; rfl)⟩
          go_wp2
          go_roundw
          case rel => exact ⟨k + 1, hlt, by go_num, ⟨HBV.out, HNx.out⟩⟩
          case measure => simp [intOf]; omega
    · obtain rfl : k = l.length := by omega
      have : O = none := by rw [← HO.out]; have := HW.out.2; rwa [List.take_of_length_le (Nat.le_refl _)] at this
      subst this
      have HK4 : Hid _ := ⟨HK.out.bel HW.out.1 HV.out⟩
      go_wp2_with (refine wpList_part (g := w.heap.size) (off := 0) (val := .agg #[.int .i64 0, .int .i64 0, .int .i64 0, .int .i64 0]) (new := #[.int .i64 0, .int .i64 0, .int .i64 0, .int .i64 0]) rfl rfl (by rfl) (by rfl) HK4.out (by rw [sizeRowL]; rfl) (by show 0 + 4 ≤ 4; omega) (one4 _ _ _ _) rfl ?_)
      refine bodyPost_ret (v := .tuple #[.string ⟨#[]⟩, .agg #[.int .i64 0, .int .i64 0, .int .i64 0, .int .i64 0], .bool false]) ?_ rfl ⟨rfl, HBw.out.trans ⟨rfl, rfl, rfl, by simp, fun k hk => setRow_other _ _ k _ (by omega)⟩⟩
      exact res_find (p := 4) (q := 5) (s := 6) (by kernel_rfl) _ _ _ _ w.heap.size _ rfl (by kernel_rfl) (by kernel_rfl) (by kernel_rfl) ((HK4.out.setR _).hp)
end Go.Proofs.Ytbhdledlahbokaa
