/- Names: the first few are looked for one by one. Names: place and value, of the first few. The program's Eval. The laws' own: num, knows. Numbers with operators of one level between, plainly. -/
import Derived.Test.YtljmbgflcidokaaGreatDoorXAtoms
import Derived.Shelf.Abstract
import Derived.Test.YtljmbgflcidokaaGreatDoorXNew
import Derived.Deep.RegionHeld3
import Derived.Test.YtljmbgflcidokaaGreatDoorQxR
import Derived.Laws.StructEq
namespace Go.Proofs.YtljmbgflcidokaaGreatDoor
open Go.ChangeShapes Go.WideShapes Go.ChangeAt Go.RowKit Go.Maps
set_option linter.unusedVariables false
set_option linter.unusedSimpArgs false

theorem place1_any (d : Dx) (s : ByteArray) (cb : Nat) (w : World) (hc : w.cell? ⟨cb, 0, none⟩ = some (.string s)) : Calls Tryz.prog 115 #[.agg #[.string d.s, .string d.v.p, .string d.v.m, .int .i64 d.v.n], .pointer (some ⟨cb, 0, none⟩)] w fun e w' => e = .returned (.bool (sB d.s s)) ∧ Below w.heap.size w w' := by
  have c := up_alloc hc (.cells #[.string d.s, .string d.v.p, .string d.v.m, .int .i64 d.v.n] 74)
  have hlt := World.block_lt_of_cell? w _ hc
  simp only at hlt
  go_enter Tryz.func115, Tryz.ntmps115
  go_wp2
  go_ret
  exact ⟨rfl, bel_alloc (Below.refl _ _) _⟩

/-- The place of the first Def of a name from k on. -/
def idxF (K : List Dx) (s : ByteArray) (k : Nat) : Int := match (K.drop k).findIdx? (fun d => sB d.s s) with | some i => ((k + i : Nat) : Int) | none => -1
theorem idx_end (K : List Dx) (s : ByteArray) {k : Nat} (h : K.length ≤ k) : idxF K s k = -1 := by
  unfold idxF
  rw [List.drop_of_length_le h]
  rfl
theorem idx_cons (K : List Dx) (s : ByteArray) {k : Nat} (h : k < K.length) : idxF K s k = if sB (K.getD k Dx.none).s s = true then (k : Int) else idxF K s (k + 1) := by
  unfold idxF
  rw [List.drop_eq_getElem_cons h, getD_at _ _ h, List.findIdx?_cons]
  cases e : sB (K[k]).s s with
  | true => simp
  | false =>
    simp only [Bool.false_eq_true, if_false]
    cases (K.drop (k + 1)).findIdx? (fun d => sB d.s s) with
    | none => rfl
    | some i => simp only [Option.map_some]; congr 1; omega

set_option maxHeartbeats 1000000 in
set_option maxRecDepth 10000 in
theorem indexFunc_any (K : List Dx) (s : ByteArray) (rb cb : Nat) (ko : Option Addr) (kcp : Nat) (w : World) (hd : Defs w rb (.slice ko K.length kcp) K) (hc : w.cell? ⟨cb, 0, none⟩ = some (.string s)) (hl : K.length ≤ 8796093022208) : Calls Tryz.prog 114 #[.slice ko K.length kcp, .func (.func 115) #[] #[.pointer (some ⟨cb, 0, none⟩)]] w fun e w' => e = .returned (.int .i64 (idxF K s 0)) ∧ Below w.heap.size w w' := by
  have HC : Hid _ := ⟨hc⟩
  have HD : Hid _ := ⟨hd⟩
  obtain ⟨M, HM⟩ : ∃ M, Hid (idxF K s 0 = M) := ⟨_, ⟨rfl⟩⟩
  rw [HM.out]
  have HP : Hid (∀ (d : Dx) (W : World), Below w.heap.size w W → Calls Tryz.prog 115 #[.agg #[.string d.s, .string d.v.p, .string d.v.m, .int .i64 d.v.n], .pointer (some ⟨cb, 0, none⟩)] W fun e w' => e = .returned (.bool (sB d.s s)) ∧ Below W.heap.size W w') := ⟨fun d W hW => place1_any d s cb W (to_bel hW hc)⟩
  clear hc hd
  go_enter Tryz.func114, Tryz.ntmps114
  go_wp2_with (fail)
  go_loopw [5, 8] (fun s5 s8 wr => ∃ k : Nat, s8 = .int .i64 (k : Int) ∧ k ≤ K.length ∧ Hid (Below w.heap.size w wr ∧ idxF K s k = M)) (fun s5 s8 wr => K.length - (intOf s8).toNat)
  case atStart => exact ⟨0, rfl, by omega, ⟨Below.refl _ _, HM.out⟩⟩
  case round =>
    obtain ⟨k, rfl, hk, HR⟩ := hrel
    by_cases hlt : k < K.length
    · have h0 : (0 : Int) ≤ (k : Int) := by omega
      have h1 : (k : Int) < (K.length : Int) := by omega
      obtain ⟨ao, cp, e0, h2⟩ := HD.out
      injection e0 with q0 q1 q2
      subst q0
      clear q1 q2
      obtain ⟨b, off, e1, e2, e3⟩ := h2.resolve_left (fun e => by rw [e] at hlt; simp at hlt)
      subst e1
      have hda := (e3 k hlt)
      have d0 := to_bel HR.out.1 hda.s
      have d1 := to_bel HR.out.1 hda.p
      have d2 := to_bel HR.out.1 hda.m
      have d3 := to_bel HR.out.1 hda.n
      have hst := idx_cons K s hlt
      rw [HR.out.2] at hst
      clear e3 hda
      generalize K.getD k Dx.none = d at *
      have hw : IntKind.i64.wrap ((k : Int) + 1) = ((k + 1 : Nat) : Int) := by rw [IntKind.wrap_i64]; omega
      have HQ : Hid _ := ⟨HP.out d⟩
      cases hb : sB d.s s with
      | true =>
        rw [hb] at HQ hst
        have hm : M = (k : Int) := hst
        clear hst
        subst hm
        go_wp2_with (go_at_call 115; (with_reducible refine (HQ.out _ HR.out.1).mono ?_); rintro e w2 ⟨he, hb2⟩; subst he)
        go_ret
        exact ⟨rfl, bel_trans HR.out.1 hb2⟩
      | false =>
        rw [hb] at HQ hst
        have hm : idxF K s (k + 1) = M := hst.symm
        have HM2 : Hid _ := ⟨hm⟩
        clear hst hm
        go_wp2_with (go_at_call 115; (with_reducible refine (HQ.out _ HR.out.1).mono ?_); rintro e w2 ⟨he, hb2⟩; subst he)
        go_roundw
        case rel => exact ⟨k + 1, by go_num, by omega, ⟨bel_trans HR.out.1 hb2, HM2.out⟩⟩
        case measure => simp [intOf]; omega
    · obtain rfl : k = K.length := by omega
      have hm : M = -1 := by rw [← HR.out.2, idx_end K s (Nat.le_refl _)]
      subst hm
      have h1 : ¬ (K.length : Int) < (K.length : Int) := by omega
      go_wp2
      go_ret
      exact ⟨rfl, HR.out.1⟩

section
variable {g : Gx} {w w' : World} {a dep ask : Nat} {pv : Value}
theorem RX.setAsk (h : RX g w a dep ask pv) (k' : Nat) (v : Int) (hv : v = (k' : Int)) (hk : k' ≤ a) : RX g (w.setCell ⟨g.rb, 4, none⟩ (.int .i64 v)) a dep k' pv := by
  subst hv
  have ht : TX g.rb w (w.setCell ⟨g.rb, 4, none⟩ (.int .i64 k')) := Turn.setCell (S := fun k => k = g.rb) (Turn.refl _ w) ⟨g.rb, 4, none⟩ rfl _
  refine h.move ht ?_ ?_ ?_ ?_ ?_ ?_ ?_ ?_ (fun j => (World.frozen?_setCell _ _ _ _).trans (h.fz j)) hk (h.pl.turn ht)
  · simp [go_sem, h.c1]
  · simp [go_sem, h.c2]
  · simp [go_sem, h.c4]
  · simp [go_sem, h.c5]
  · simp [go_sem]
  · simp [go_sem]
  · simp [go_sem]
  · simp [go_sem]

theorem nameV_idx (K : List Dx) (s : ByteArray) : (idxF K s 0 < 0 ∧ nameV K s = ⟨s, es, 0⟩) ∨ ∃ i, i < K.length ∧ idxF K s 0 = (i : Int) ∧ nameV K s = redV (K.getD i Dx.none).v := by
  unfold idxF nameV
  rw [List.drop_zero]
  cases hf : K.findIdx? (fun d => sB d.s s) with
  | none =>
    left
    have : K.find? (fun d => sB d.s s) = none := by
      rw [List.findIdx?_eq_none_iff] at hf
      rw [List.find?_eq_none]
      intro x hx
      have := hf x hx
      simp [this]
    rw [this]
    exact ⟨by decide, rfl⟩
  | some i =>
    right
    have hb := List.findIdx?_eq_some_iff_getElem.1 hf
    obtain ⟨hi, h1, h2⟩ := hb
    refine ⟨i, hi, by simp, ?_⟩
    have : K.find? (fun d => sB d.s s) = some K[i] := by
      rw [List.find?_eq_some_iff_getElem]
      exact ⟨h1, i, hi, rfl, fun j hj => by simpa using h2 j hj⟩
    rw [this, getD_at _ _ hi]

set_option maxHeartbeats 1000000 in
theorem place_few (h : RX g w a dep ask pv) (hk : ask < a) (h8 : ask < 8) (s : ByteArray) (hKl : g.K.length ≤ 8796093022208) : Calls Tryz.prog 100 #[.pointer (some ⟨g.rb, 3, none⟩), .string s] w fun e w' => e = .returned (.int .i64 (idxF g.K s 0)) ∧ TX g.rb w w' ∧ RX g w' a dep (ask + 1) pv := by
  have hmf : ∀ (fn : Fn) (first cap : Array Value) (w : World), (Instr.makeFunc fn first cap).run Tryz.prog w = .ok (.func fn first cap) w := by intros; rfl
  have hrb := h.lt
  have hrb' : ¬ w.heap.size = g.rb := by omega
  have c4 := h.c4
  have z4 := h.fz 4
  obtain ⟨ko, kcp, hkv, hdf⟩ := h.df
  have c3 : w.cell? ⟨g.rb, 3, none⟩ = some (.slice ko g.K.length kcp) := by rw [h.c3, hkv]
  have hw : IntKind.i64.wrap ((ask : Int) + 1) = (ask : Int) + 1 := by rw [IntKind.wrap_i64]; omega
  have hle : (ask : Int) + 1 ≤ 8 := by omega
  have X1 := (h.setAsk (ask + 1) ((ask : Int) + 1) (by omega) (by omega)).alloc (.cells #[.string s] 9)
  have T1 : TX g.rb w ((w.setCell ⟨g.rb, 4, none⟩ (.int .i64 ((ask : Int) + 1))).alloc (.cells #[.string s] 9)) := Turn.alloc (TX.set (Turn.refl _ w) 4 _) _
  have hd1 := X1.df
  rw [hkv] at hd1
  have hc1 : ((w.setCell ⟨g.rb, 4, none⟩ (.int .i64 ((ask : Int) + 1))).alloc (.cells #[.string s] 9)).cell? ⟨w.heap.size, 0, none⟩ = some (.string s) := by
    have e : (w.setCell ⟨g.rb, 4, none⟩ (.int .i64 ((ask : Int) + 1))).heap.size = w.heap.size := by simp [World.setCell]
    simp only [World.cell?]
    rw [← e, heap_alloc_new]
    rfl
  have HI : Hid _ := ⟨indexFunc_any g.K s g.rb w.heap.size ko kcp _ hd1 hc1 hKl⟩
  have HX : Hid _ := ⟨X1⟩
  have HT : Hid _ := ⟨T1⟩
  clear X1 T1 hd1 hdf h hc1
  generalize g.K.length = kl at *
  generalize idxF g.K s 0 = M at *
  go_enter Tryz.func100, Tryz.ntmps100
  go_wp2_with (go_at_call 114; (with_reducible refine HI.out.mono ?_); rintro e w2 ⟨he, hb2⟩; subst he)
  go_ret
  exact ⟨rfl, TX.bel HT.out hb2, HX.out.bel hb2⟩

/-- What place is asked for. -/
def PlaceC (g : Gx) (s : ByteArray) (w : World) (a dep ask : Nat) : Prop := Calls Tryz.prog 100 #[.pointer (some ⟨g.rb, 3, none⟩), .string s] w fun e w' => e = .returned (.int .i64 (idxF g.K s 0)) ∧ TX g.rb w w' ∧ ∃ pv', RX g w' a dep (ask + 1) pv'
theorem VB.at' {u : World} {p m : ByteArray} {n : Int} (g : Nat) (hg : g = u.heap.size) (o : Obj) (ho : o = .cells #[.string p, .string m, .int .i64 n] 27) : VB (u.alloc o) g p m n := by subst ho; exact VB.at u p m n g hg

set_option maxHeartbeats 1000000 in
theorem value_of (h : RX g w a dep ask pv) (s : ByteArray) (hP : PlaceC g s (w.alloc zV) a dep ask) (hKl : g.K.length ≤ 8796093022208) : Calls Tryz.prog 86 #[.pointer (some ⟨g.rb, 3, none⟩), .string s] w fun e w' => e = .returned (.agg #[.string (nameV g.K s).p, .string (nameV g.K s).m, .int .i64 (nameV g.K s).n]) ∧ TX g.rb w w' ∧ ∃ pv', RX g w' a dep (ask + 1) pv' := by
  have hrb := h.lt
  have hrb' : ¬ w.heap.size = g.rb := by omega
  have HP : Hid _ := ⟨hP⟩
  have HW : Hid _ := ⟨h⟩
  have HV : Hid (VB (w.alloc zV) w.heap.size ⟨#[]⟩ ⟨#[]⟩ 0) := ⟨VB.new w _ _ _⟩
  have HT : Hid (TX g.rb w (w.alloc zV)) := ⟨Turn.alloc (Turn.refl _ w) zV⟩
  clear hP h
  rcases nameV_idx g.K s with ⟨hlt, hn⟩ | ⟨i, hi, hx, hn⟩
  · rw [hn]
    unfold PlaceC at HP
    generalize idxF g.K s 0 = M at *
    go_enter Tryz.func86, Tryz.ntmps86
    go_wp2_with (go_at_call 100; (with_reducible refine HP.out.mono ?_); rintro e w2 ⟨he, T2, pv2, X2⟩; subst he; have HX2 : Hid _ := ⟨X2⟩; have W2 := HV.out.tx T2 hrb'; obtain ⟨f0, f1, f2, f3⟩ := id W2; have TT := HT.out.trans T2; clear X2 T2)
    refine bodyPost_ret (resV_value _ _ w.heap.size _ _ _ rfl (W2.set _ _ _)) rfl ?_
    exact ⟨rfl, TX.set3 TT (Nat.le_refl _) _ _ _, pv2, HX2.out.set3 HW.out w.heap.size (Nat.le_refl _) W2.c0 _ _ _⟩
  · unfold PlaceC at HP
    rw [hx] at HP
    rw [hn]
    have HD : Hid (∀ (W : World) (pv' : Value), RX g W a dep (ask + 1) pv' → ∃ b off kcp, W.cell? ⟨g.rb, 3, none⟩ = some (.slice (some ⟨b, off, none⟩) g.K.length kcp) ∧ DefAt W b (off + i * 4) (g.K.getD i Dx.none)) := ⟨fun W pv' hW => by
      obtain ⟨ko, kcp, hkv, hdf⟩ := hW.df
      obtain ⟨b, off, e1, e2, e3⟩ := hdf.resolve_left (fun e => by rw [e] at hi; simp at hi)
      exact ⟨b, off, kcp, by rw [hW.c3, hkv, e1], e3 i hi⟩⟩
    have HR : Hid (∀ W, _) := ⟨fun W => reduced_any (g.K.getD i Dx.none).v.p (g.K.getD i Dx.none).v.m (g.K.getD i Dx.none).v.n W⟩
    have h0 : (0 : Int) ≤ (i : Int) := by omega
    have h0' : ¬ (i : Int) < 0 := by omega
    have h1 : (i : Int) < (g.K.length : Int) := by omega
    generalize g.K.getD i Dx.none = d at *
    generalize hrv : redV d.v = rv at *
    obtain ⟨r1, r2, r3⟩ := rv
    rw [Vx.val_mk] at HR
    generalize g.K.length = kl at *
    clear hrv hn hx hi
    go_enter Tryz.func86, Tryz.ntmps86
    go_wp2_with (first
      | (go_at_call 100; (with_reducible refine HP.out.mono ?_); rintro e w2 ⟨he, T2, pv2, X2⟩; subst he; obtain ⟨b, off, kcp, c3, d0, d1, d2, d3⟩ := HD.out _ _ X2; have HX2 : Hid _ := ⟨X2⟩; have W2 := HV.out.tx T2 hrb'; obtain ⟨f0, f1, f2, f3⟩ := id W2; have TT := HT.out.trans T2; clear X2 T2)
      | (go_at_call 27; (with_reducible refine (HR.out _).mono ?_); rintro e w3 ⟨he, hb3⟩; subst he; have W3 := W2.bel hb3 W2.lt; obtain ⟨f0, f1, f2, f3⟩ := id W3))
    refine bodyPost_ret (resV_value _ _ w.heap.size _ _ _ rfl (W3.set _ _ _)) rfl ?_
    exact ⟨rfl, TX.set3 (TX.bel TT hb3) (Nat.le_refl _) _ _ _, pv2, (HX2.out.bel hb3).set3 HW.out w.heap.size (Nat.le_refl _) W3.c0 _ _ _⟩

/-- Of few names. -/
theorem name_few (g : Gx) (hL : g.L.length ≤ 8) (hKl : g.K.length ≤ 8796093022208) : NameC g := by
  intro w a dep ask pv i h hk hal hi h1
  refine value_of h _ ?_ hKl
  refine (place_few (h.alloc zV) hk (by omega) _ hKl).mono ?_
  rintro e w' ⟨he, ht, hx⟩
  exact ⟨he, ht, pv, hx⟩
/-- Of none. -/
theorem name_none (g : Gx) (hL : ∀ i, i < g.L.length → ¬ (g.L.getD i TL.none).1.k = 1) : NameC g := by
  intro w a dep ask pv i h hk hal hi h1
  exact absurd (by simpa using h1) (hL i hi)
end

/-- What Eval is given. -/
structure EvIn (w : World) (ao : Option Addr) (L : List TL) (ko : Option Addr) (K : List Dx) : Prop where
  tk : L = [] ∨ ∃ b off, ao = some ⟨b, off, none⟩ ∧ ∀ i, i < L.length → TokAt w b (off + i * 4) (L.getD i TL.none)
  df : K = [] ∨ ∃ b off, ko = some ⟨b, off, none⟩ ∧ ∀ i, i < K.length → DefAt w b (off + i * 4) (K.getD i Dx.none)
  hl : L.length ≤ 8796093022208
  ot : ∀ p ∈ L, p.1.t.length ≤ 140737488355328
  ok : ∀ d ∈ K, d.v.Ok
/-- What Eval answers. -/
def evE (m : Res) : Value := match m with
  | .error er => .tuple #[.agg #[.string ⟨#[]⟩, .string ⟨#[]⟩, .int .i64 0], .int .i64 0, .int .i64 er]
  | .ok (v, b) => .tuple #[.agg #[.string v.p, .string v.m, .int .i64 v.n], .int .i64 (b : Int), .int .i64 0]
def evI (K : List Dx) (L : List TL) (a : Int) : Res := if a < 0 ∨ (L.length : Int) < a then .error 11 else evalM K L a.toNat

theorem NR.rx {w W : World} {rb mb : Nat} {ao ko : Option Addr} {cp kcp : Nat} {L : List TL} {K : List Dx} {a : Nat} (h : NR w rb mb (.slice ao L.length cp) (.slice ko K.length kcp) a 3 W) (hi : EvIn w ao L ko K) : RX ⟨rb, ao, cp, L, .slice ko K.length kcp, K, mb⟩ W a 0 0 (.map none) := by
  refine ⟨h.c0, h.c1, h.c2, h.c3, h.c4, h.c5, h.c6, h.c7, h.fz, ?_, fun i hi => h.st i hi, h.op, h.mlt, ⟨ko, kcp, rfl, ?_⟩, .inl rfl, by omega, hi.hl, hi.ot, hi.ok⟩
  · rcases hi.tk with h1 | ⟨b, off, e1, e2⟩
    · exact .inl h1
    · by_cases hz : L.length = 0
      · exact .inl (List.eq_nil_of_length_eq_zero hz)
      · have hb : b < w.heap.size := World.block_lt_of_cell? w _ (e2 0 (by omega)).k
        have := h.wlt
        exact .inr ⟨b, off, e1, by dsimp only; omega, fun i hi => (e2 i hi).below h.bel (Nat.le_refl _)⟩
  · rcases hi.df with h1 | ⟨b, off, e1, e2⟩
    · exact .inl h1
    · by_cases hz : K.length = 0
      · exact .inl (List.eq_nil_of_length_eq_zero hz)
      · have hb : b < w.heap.size := World.block_lt_of_cell? w _ (e2 0 (by omega)).s
        have := h.wlt
        exact .inr ⟨b, off, e1, by dsimp only; omega, fun i hi => (e2 i hi).turn (Turn.of_below (h.bel.mono (Nat.le_refl _)) (fun _ => False)) (fun e => e)⟩

theorem EvIn.bel {w w' : World} {ao ko : Option Addr} {L : List TL} {K : List Dx} (h : EvIn w ao L ko K) (hb : Below w.heap.size w w') : EvIn w' ao L ko K := by
  refine ⟨h.tk.imp id ?_, h.df.imp id ?_, h.hl, h.ot, h.ok⟩
  · rintro ⟨b, off, e1, e2⟩
    exact ⟨b, off, e1, fun i hi => (e2 i hi).below hb (Nat.le_refl _)⟩
  · rintro ⟨b, off, e1, e2⟩
    exact ⟨b, off, e1, fun i hi => (e2 i hi).turn (Turn.of_below hb (fun _ => False)) (fun e => e)⟩
theorem keepE {u : World} {B rb : Nat} {p m : ByteArray} {n : Int} {x : Value} (hB : ¬ rb = B) (h : u.cell? ⟨B, 0, none⟩ = some (.string p) ∧ u.cell? ⟨B, 1, none⟩ = some (.string m) ∧ u.cell? ⟨B, 2, none⟩ = some (.int .i64 n) ∧ u.cell? ⟨rb, 1, none⟩ = some x) :
    (((u.setCell ⟨B, 0, none⟩ (.string p)).setCell ⟨B, 1, none⟩ (.string m)).setCell ⟨B, 2, none⟩ (.int .i64 n)).drew.cell? ⟨B, 0, none⟩ = some (.string p) ∧ (((u.setCell ⟨B, 0, none⟩ (.string p)).setCell ⟨B, 1, none⟩ (.string m)).setCell ⟨B, 2, none⟩ (.int .i64 n)).drew.cell? ⟨B, 1, none⟩ = some (.string m) ∧ (((u.setCell ⟨B, 0, none⟩ (.string p)).setCell ⟨B, 1, none⟩ (.string m)).setCell ⟨B, 2, none⟩ (.int .i64 n)).drew.cell? ⟨B, 2, none⟩ = some (.int .i64 n) ∧ (((u.setCell ⟨B, 0, none⟩ (.string p)).setCell ⟨B, 1, none⟩ (.string m)).setCell ⟨B, 2, none⟩ (.int .i64 n)).drew.cell? ⟨rb, 1, none⟩ = some x :=
  ⟨up_drew (by simp [go_sem, h.1]), up_drew (by simp [go_sem, h.2.1]), up_drew (by simp [go_sem, h.2.2.1]), up_drew (set3_cell hB h.2.2.2)⟩

set_option maxHeartbeats 2000000 in
set_option maxRecDepth 10000 in
theorem xEval_any (w : World) (ao ko : Option Addr) (cp kcp : Nat) (L : List TL) (K : List Dx) (a : Int) (hi : EvIn w ao L ko K) (hN : ∀ rb mb, NameC ⟨rb, ao, cp, L, .slice ko K.length kcp, K, mb⟩) :
    Calls Tryz.prog 9 #[.slice ao L.length cp, .int .i64 a, .slice ko K.length kcp] w fun e w' => e = .returned (evE (evI K L a)) ∧ Below w.heap.size w w' := by
  unfold evI
  have V6 : VB (w.alloc zV) w.heap.size ⟨#[]⟩ ⟨#[]⟩ 0 := VB.new w _ _ _
  by_cases h1 : a < 0
  · rw [if_pos (.inl h1)]
    go_enter Tryz.func9, Tryz.ntmps9
    go_wp2
    refine bodyPost_ret (resV_Eval _ _ w.heap.size _ _ _ rfl (VB.at _ _ _ _ _ rfl)) rfl ⟨rfl, bel_alloc (Below.refl _ _) _⟩
  · by_cases h2 : (L.length : Int) < a
    · rw [if_pos (.inr h2)]
      go_enter Tryz.func9, Tryz.ntmps9
      go_wp2
      refine bodyPost_ret (resV_Eval _ _ w.heap.size _ _ _ rfl (VB.at _ _ _ _ _ rfl)) rfl ⟨rfl, bel_alloc (Below.refl _ _) _⟩
    · rw [if_neg (by omega)]
      obtain ⟨n, rfl⟩ : ∃ n : Nat, a = (n : Int) := ⟨a.toNat, by omega⟩
      rw [Int.toNat_natCast]
      have HNR : Hid _ := ⟨newReader_x ao L.length cp ko K.length kcp n (w.alloc zV)⟩
      have hz : (w.alloc zV).heap.size + 8 = w.heap.size + 9 := by simp
      rw [hz] at HNR
      have HI : Hid _ := ⟨hi.bel (bel_alloc (Below.refl _ _) zV)⟩
      have HN : Hid _ := ⟨hN (w.heap.size + 9) (w.alloc zV).heap.size⟩
      have hnl : n ≤ L.length := by omega
      have HE : Hid (∀ W ask pv, RX ⟨w.heap.size + 9, ao, cp, L, .slice ko K.length kcp, K, (w.alloc zV).heap.size⟩ W n 0 ask pv → Calls Tryz.prog 63 #[.pointer (some ⟨w.heap.size + 9 + 3 + 3 * 2, 0, none⟩), .pointer (some ⟨w.heap.size + 9 + 1 + 3 * 2, 0, none⟩), .pointer (some ⟨w.heap.size + 9 + 2 + 3 * 2, 0, none⟩)] W fun e w' => SE (evalM K L n) ⟨w.heap.size + 9, ao, cp, L, .slice ko K.length kcp, K, (w.alloc zV).heap.size⟩ 0 W e w') := ⟨fun W ask pv hW => xeval _ HN.out W n 0 ask pv hW rfl hnl⟩
      have h7 : Hid (∀ W ask pv, RX ⟨w.heap.size + 9, ao, cp, L, .slice ko K.length kcp, K, (w.alloc zV).heap.size⟩ W n 0 ask pv → W.cell? ⟨w.heap.size + 9, 7, none⟩ = some (.func (.func 63) #[] #[.pointer (some ⟨w.heap.size + 9 + 3 + 3 * 2, 0, none⟩), .pointer (some ⟨w.heap.size + 9 + 1 + 3 * 2, 0, none⟩), .pointer (some ⟨w.heap.size + 9 + 2 + 3 * 2, 0, none⟩)])) := ⟨fun W ask pv hW => hW.c7⟩
      generalize w.heap.size + 9 + 3 + 3 * 2 = q at *
      generalize w.heap.size + 9 + 1 + 3 * 2 = r at *
      generalize w.heap.size + 9 + 2 + 3 * 2 = l at *
      generalize hrbe : w.heap.size + 9 = rb at *
      have hrb : ¬ rb = w.heap.size := by omega
      have HV6 : Hid _ := ⟨V6⟩
      clear hi hN HN hz V6
      cases hm : evalM K L n with
      | error er =>
        rw [hm] at HE
        go_enter Tryz.func9, Tryz.ntmps9
        go_wp2_with (first
          | (go_at_call 25; (with_reducible refine HNR.out.mono ?_); rintro e w1 ⟨he, hn⟩; subst he; have X1 := hn.rx HI.out; have HX1 : Hid _ := ⟨X1⟩; have c7 := h7.out _ _ _ X1; have V1 := HV6.out.bel hn.bel HV6.out.lt; have B1 := bel_trans (bel_alloc (Below.refl w.heap.size w) zV) hn.bel; clear hn X1)
          | (go_at_call 63; (with_reducible refine (HE.out _ _ _ HX1.out).mono ?_); rintro e w2 ⟨⟨x, he⟩, hne, T2, hEB⟩; subst he; have hne' : (er != 0) = true := bne_iff_ne.2 hne; have T2' : TX rb w1 w2 := T2; have V2 := V1.tx T2' (fun e => hrb e.symm); obtain ⟨f0, f1, f2, f3⟩ := id V2; have B2 : Below w.heap.size w w2 := B1.trans (T2'.below B1.size (fun k e => (by omega)))))
        refine bodyPost_ret (resV_Eval _ _ w.heap.size _ _ _ rfl ((V2.set _ _ _).set _ _ _)) rfl ⟨rfl, ?_⟩
        exact (((((B2.setCell (Nat.le_refl _) _).setCell (Nat.le_refl _) _).setCell (Nat.le_refl _) _).setCell (Nat.le_refl _) _).setCell (Nat.le_refl _) _).setCell (Nat.le_refl _) _
      | ok vb =>
        obtain ⟨v, b⟩ := vb
        rw [hm] at HE
        go_enter Tryz.func9, Tryz.ntmps9
        go_upto_region 7 with (first
          | (go_at_call 25; (with_reducible refine HNR.out.mono ?_); rintro e w1 ⟨he, hn⟩; subst he; have X1 := hn.rx HI.out; have HX1 : Hid _ := ⟨X1⟩; have c7 := h7.out _ _ _ X1; have V1 := HV6.out.bel hn.bel HV6.out.lt; have B1 := bel_trans (bel_alloc (Below.refl w.heap.size w) zV) hn.bel; clear hn X1)
          | (go_at_call 63; (with_reducible refine (HE.out _ _ _ HX1.out).mono ?_); rintro e w2 ⟨he, hvo, T2, ask2, pv2, X2⟩; subst he; have T2' : TX rb w1 w2 := T2; have V2 := V1.tx T2' (fun e => hrb e.symm); obtain ⟨f0, f1, f2, f3⟩ := id V2; have B2 : Below w.heap.size w w2 := B1.trans (T2'.below B1.size (fun k e => (by omega))); have c1 : w2.cell? ⟨rb, 1, none⟩ = some (.int .i64 (b : Int)) := X2.c1; clear X2 T2))
        have V3 := V2.set v.p v.m v.n
        have B3 : Below w.heap.size w (((w2.setCell ⟨w.heap.size, 0, none⟩ (.string v.p)).setCell ⟨w.heap.size, 1, none⟩ (.string v.m)).setCell ⟨w.heap.size, 2, none⟩ (.int .i64 v.n)) := ((B2.setCell (Nat.le_refl _) _).setCell (Nat.le_refl _) _).setCell (Nat.le_refl _) _
        have c1' := set3_cell (B := w.heap.size) (x := .string v.p) (y := .string v.m) (z := .int .i64 v.n) (ad := ⟨rb, 1, none⟩) hrb c1
        generalize ((w2.setCell ⟨w.heap.size, 0, none⟩ (.string v.p)).setCell ⟨w.heap.size, 1, none⟩ (.string v.m)).setCell ⟨w.heap.size, 2, none⟩ (.int .i64 v.n) = w3 at *
        obtain ⟨k0, k1, k2, k3⟩ := id V3
        have d0 : w3.drew.cell? ⟨w.heap.size, 0, none⟩ = _ := k0
        have d1 : w3.drew.cell? ⟨w.heap.size, 1, none⟩ = _ := k1
        have d2 : w3.drew.cell? ⟨w.heap.size, 2, none⟩ = _ := k2
        have d4 : w3.drew.cell? ⟨rb, 1, none⟩ = _ := c1'
        go_region_held3 (fun u => u.cell? ⟨w.heap.size, 0, none⟩ = some (.string v.p) ∧ u.cell? ⟨w.heap.size, 1, none⟩ = some (.string v.m) ∧ u.cell? ⟨w.heap.size, 2, none⟩ = some (.int .i64 v.n) ∧ u.cell? ⟨rb, 1, none⟩ = some (.int .i64 (b : Int)))
          (first | (with_reducible assumption) | (with_reducible exact ⟨d0, d1, d2, d4⟩) | (with_reducible exact keepE hrb ⟨k0, k1, k2, c1'⟩))
          (fail)
        all_goals
          go_wp2
          refine bodyPost_ret (resV_Eval _ _ w.heap.size _ _ _ rfl ((V3.set _ _ _).drewN 1)) rfl ⟨rfl, ?_⟩
          exact (((B3.setCell (Nat.le_refl _) _).setCell (Nat.le_refl _) _).setCell (Nat.le_refl _) _).drew

theorem num_any (n : Int) (w : World) : Calls Tryz.prog 13 #[.int .i64 n] w fun e w' => e = .returned (.int .i64 n) ∧ w' = w := by
  go_enter Tryz.func13, Tryz.ntmps13
  go_wp2
  go_ret
  exact ⟨rfl, rfl⟩
def knT : List UInt8 := [102, 111, 111, 32, 43, 32, 50, 32, 42, 32, 51, 32, 45, 32, 98, 97, 114]
def knL : List TL := [(⟨1, 0, [102, 111, 111]⟩, 1), (⟨4, 0, [43]⟩, 1), (⟨2, 2, []⟩, 1), (⟨4, 0, [42]⟩, 1), (⟨2, 3, []⟩, 1), (⟨4, 0, [45]⟩, 1), (⟨1, 0, [98, 97, 114]⟩, 1), (⟨6, 0, []⟩, 1)]
theorem kn_cut : allM knT = .ok knL := by kernel_rfl
theorem kn_eval : evI [] knL 0 = .ok (⟨⟨#[102, 111, 111]⟩, ⟨#[98, 97, 114]⟩, 6⟩, 7) := by kernel_rfl
/-- Tokens that a call of All handed back. -/
theorem EvIn.own {w : World} {base : Nat} {v : Value} {L : List TL} (h : OwnTP w base v L) (hl : L.length ≤ 8796093022208) (ot : ∀ p ∈ L, p.1.t.length ≤ 140737488355328) : ∃ ao cp, v = .slice ao L.length cp ∧ EvIn w ao L none [] := by
  obtain ⟨ao, cap, hv, _, _, ht, _⟩ := OwnTP.any h
  exact ⟨ao, cap, hv, ⟨ht, .inl rfl, hl, ot, fun d hd => by cases hd⟩⟩
/-- Eval of few tokens, nothing known. -/
theorem eval_few {w : World} {ao : Option Addr} {cp : Nat} {L : List TL} (h : EvIn w ao L none []) (hL : L.length ≤ 8) : Calls Tryz.prog 9 #[.slice ao L.length cp, .int .i64 0, .slice none 0 0] w fun e w' => e = .returned (evE (evI [] L 0)) ∧ Below w.heap.size w w' :=
  xEval_any w ao none cp 0 L [] 0 h (fun rb mb => name_few _ hL (by simp))

set_option maxHeartbeats 4000000 in
set_option maxRecDepth 10000 in
theorem knows_any (w : World) (hE : Er w) : Calls Tryz.prog 14 #[] w fun e w' => e = .returned (.bool true) ∧ Below w.heap.size w w' := by
  have h := pall ⟨#[102, 111, 111, 32, 43, 32, 50, 32, 42, 32, 51, 32, 45, 32, 98, 97, 114]⟩ w hE
  rw [show lo ⟨#[102, 111, 111, 32, 43, 32, 50, 32, 42, 32, 51, 32, 45, 32, 98, 97, 114]⟩ = knT from rfl, kn_cut] at h
  have HC : Hid _ := ⟨h⟩
  have HE : Hid (∀ (W : World) (ao : Option Addr) (cp : Nat), EvIn W ao knL none [] → Calls Tryz.prog 9 #[.slice ao 8 cp, .int .i64 0, .slice none 0 0] W fun e w' => e = .returned (.tuple #[.agg #[.string ⟨#[102, 111, 111]⟩, .string ⟨#[98, 97, 114]⟩, .int .i64 6], .int .i64 7, .int .i64 0]) ∧ Below W.heap.size W w') := ⟨fun W ao cp hW => by
    have := eval_few (cp := cp) hW (by decide)
    rw [kn_eval] at this
    exact this⟩
  have he := eqlV ⟨#[102, 111, 111]⟩ ⟨#[98, 97, 114]⟩ ⟨#[102, 111, 111]⟩ ⟨#[98, 97, 114]⟩ 6 6
  have e1 : ((⟨#[102, 111, 111]⟩ : ByteArray).toList == (⟨#[102, 111, 111]⟩ : ByteArray).toList && ((⟨#[98, 97, 114]⟩ : ByteArray).toList == (⟨#[98, 97, 114]⟩ : ByteArray).toList && ((6 : Int) == 6 && true))) = true := by simp
  rw [e1] at he
  clear h e1
  go_enter Tryz.func14, Tryz.ntmps14
  go_wp2_with (first
    | (go_at_call 24; (with_reducible refine HC.out.mono ?_); rintro e w1 ⟨v1, he1, o1, hb1⟩; subst he1; obtain ⟨ao, cp, hv, hin⟩ := EvIn.own o1 (by decide) (by decide); rw [show knL.length = 8 from rfl] at hv; subst hv; have HIN : Hid _ := ⟨hin⟩; clear hin o1)
    | (go_at_call 9; (with_reducible refine (HE.out _ _ _ HIN.out).mono ?_); rintro e w2 ⟨he2, hb2⟩; subst he2)
    | (go_at_call 13; refine (num_any _ _).mono ?_; rintro e w' ⟨rfl, hw'⟩; subst w'))
  go_ret
  exact ⟨rfl, bel_alloc (bel_trans hb1 hb2) _⟩

/-- The tokens of a number, and of operators with their numbers. -/
def tkN (n : Int) : TL := (⟨2, n, []⟩, 0)
def tkS (s : List UInt8) : TL := (⟨4, 0, s⟩, 0)
def tksF (ps : List (List UInt8 × Int)) : List TL := ps.flatMap fun p => [tkS p.1, tkN p.2]
def tksT (n : Int) (ps : List (List UInt8 × Int)) : List TL := tkN n :: tksF ps
theorem tksF_len (ps : List (List UInt8 × Int)) : (tksF ps).length = 2 * ps.length := by
  induction ps with
  | nil => rfl
  | cons p ps ih =>
    show ([tkS p.1, tkN p.2] ++ tksF ps).length = _
    rw [List.length_append, ih]
    simp; omega
theorem tksT_len (n : Int) (ps : List (List UInt8 × Int)) : (tksT n ps).length = 2 * ps.length + 1 := by
  unfold tksT
  rw [List.length_cons, tksF_len]
theorem tksF_app (ps qs : List (List UInt8 × Int)) : tksF (ps ++ qs) = tksF ps ++ tksF qs := by simp [tksF]
/-- What operators make of a value, one after the other. -/
def foldT : List (List UInt8 × Int) → Vx → Option Vx
  | [], v => some v
  | p :: ps, v => match twoV p.1 v (Vx.num p.2) with | none => none | some y => foldT ps y
theorem foldT_app (ps qs : List (List UInt8 × Int)) : ∀ v, foldT (ps ++ qs) v = match foldT ps v with | none => none | some y => foldT qs y := by
  induction ps with
  | nil => intro v; rfl
  | cons p ps ih =>
    intro v
    show (match twoV p.1 v (Vx.num p.2) with | none => none | some y => foldT (ps ++ qs) y) = _
    cases h : twoV p.1 v (Vx.num p.2) with
    | none => simp [foldT, h]
    | some y => simp [foldT, h, ih]
theorem tksF_sg : ∀ (ps : List (List UInt8 × Int)) (i : Nat) (hi : i < ps.length), (tksF ps).getD (2 * i) TL.none = tkS ps[i].1 ∧ (tksF ps).getD (2 * i + 1) TL.none = tkN ps[i].2
  | p :: ps, 0, hi => ⟨rfl, rfl⟩
  | p :: ps, i + 1, hi => by
    have := tksF_sg ps i (by simpa using hi)
    have e : tksF (p :: ps) = tkS p.1 :: tkN p.2 :: tksF ps := rfl
    rw [e, show 2 * (i + 1) = 2 * i + 1 + 1 by omega]
    simpa using this
/-- A list of tokens as it is asked for: m operators of one level, m + 1 numbers. -/
structure Alt (L : List TL) (lv m : Nat) (ss : Nat → List UInt8) (ns : Nat → Int) : Prop where
  len : L.length = 2 * m + 1
  num : ∀ i, i ≤ m → tk L (2 * i) = ⟨2, ns i, []⟩
  sig : ∀ i, i < m → tk L (2 * i + 1) = ⟨4, 0, ss i⟩
  lev : ∀ i, i < m → lvOf (ss i) = some lv
theorem alt_of (n : Int) (ps : List (List UInt8 × Int)) (lv : Nat) (h : ∀ p ∈ ps, lvOf p.1 = some lv) : Alt (tksT n ps) lv ps.length (fun i => (ps.getD i ([], 0)).1) (fun i => if i = 0 then n else (ps.getD (i - 1) ([], 0)).2) := by
  refine ⟨tksT_len n ps, fun i hi => ?_, fun i hi => ?_, fun i hi => ?_⟩
  · cases i with
    | zero => rfl
    | succ i =>
      unfold tk tksT
      rw [show 2 * (i + 1) = 2 * i + 1 + 1 by omega, List.getD_cons_succ, (tksF_sg ps i (by omega)).2]
      show (⟨2, ps[i].2, []⟩ : Tok) = _
      simp only [Nat.add_sub_cancel]
      rw [if_neg (by omega), getD_at ps i (by omega)]
  · unfold tk tksT
    rw [List.getD_cons_succ, (tksF_sg ps i hi).1]
    simp only [tkS, getD_at ps i hi]
  · rw [getD_at ps i hi]
    exact h _ (List.getElem_mem _)
section
variable {L : List TL} {lv m : Nat} {ss : Nat → List UInt8} {ns : Nat → Int}
theorem Alt.one (h : Alt L lv m ss ns) {i : Nat} (hi : i ≤ m) : isOne L (2 * i) = false := by
  unfold isOne isSg
  rw [h.num i hi]
  rfl
theorem Alt.oper (h : Alt L lv m ss ns) (inner : Nat → Res) {i : Nat} (hi : i ≤ m) : operM [] L inner (2 * i) = .ok (Vx.num (ns i), 2 * i + 1) := by
  unfold operM
  rw [onesN_end (h.one hi), if_neg (by omega), Nat.add_zero]
  have : atomM [] L inner (2 * i) = .ok (Vx.num (ns i), 2 * i + 1) := by
    unfold atomM isSg
    rw [h.num i hi]
    rfl
  rw [this]
  rfl
theorem Alt.isLv (h : Alt L lv m ss ns) (n : Nat) {i : Nat} (hi : i < m) : isLv L (2 * i + 1) n = (lv == n) := by
  unfold Go.Proofs.YtljmbgflcidokaaGreatDoor.isLv
  rw [h.sig i hi]
  simp only
  rw [h.lev i hi]
  by_cases e : lv = n
  · subst e; simp
  · have h1 : ¬ (some lv = some n) := fun x => e (Option.some.inj x)
    have h2 : (lv == n) = false := by simpa using e
    rw [h2]
    simp [e]
theorem Alt.isEnd (h : Alt L lv m ss ns) (n : Nat) : Go.Proofs.YtljmbgflcidokaaGreatDoor.isLv L (2 * m + 1) n = false := by
  cases e : Go.Proofs.YtljmbgflcidokaaGreatDoor.isLv L (2 * m + 1) n with
  | false => rfl
  | true => have := lv_lt e; have := h.len; omega
/-- A level that is not theirs does nothing. -/
theorem Alt.skip (h : Alt L lv m ss ns) (n : Nat) (hn : ¬ lv = n) (f : Nat → Res) (hf : ∀ i, i ≤ m → f (2 * i) = .ok (Vx.num (ns i), 2 * i + 1)) {i : Nat} (hi : i ≤ m) : levM L n f (2 * i) = .ok (Vx.num (ns i), 2 * i + 1) := by
  unfold levM
  rw [hf i hi]
  simp only
  refine levF_end ?_ _
  by_cases hm : i = m
  · subst hm; exact h.isEnd n
  · rw [h.isLv n (by omega)]
    simpa using hn
def rE (R : Option Vx) (b : Nat) : Res := match R with | none => .error 110 | some y => .ok (y, b)
/-- The numbers from the j-th operator on. -/
def altP (ss : Nat → List UInt8) (ns : Nat → Int) (j : Nat) : Nat → List (List UInt8 × Int)
  | 0 => []
  | k + 1 => (ss j, ns (j + 1)) :: altP ss ns (j + 1) k
theorem Alt.run (h : Alt L lv m ss ns) (f : Nat → Res) (hf : ∀ i, i ≤ m → f (2 * i) = .ok (Vx.num (ns i), 2 * i + 1)) : ∀ (k j : Nat) (v : Vx), j + k = m → ∀ fuel, k < fuel → levF L lv f fuel v (2 * j + 1) = rE (foldT (altP ss ns j k) v) (2 * m + 1)
  | 0, j, v, hj, fuel, hfu => by
    obtain rfl : j = m := by omega
    rw [levF_end (h.isEnd lv)]
    rfl
  | k + 1, j, v, hj, fuel, hfu => by
    cases fuel with
    | zero => omega
    | succ fuel =>
      unfold levF
      rw [h.isLv lv (by omega)]
      simp only [BEq.rfl, if_true]
      rw [show 2 * j + 1 + 1 = 2 * (j + 1) by omega, hf (j + 1) (by omega), h.sig j (by omega)]
      simp only [altP, foldT]
      cases twoV (ss j) v (Vx.num (ns (j + 1))) with
      | none => rfl
      | some y => exact Alt.run h f hf k (j + 1) y (by omega) fuel (by omega)
theorem Alt.top (h : Alt L lv m ss ns) (n : Nat) (f : Nat → Res) (R : Option Vx) (hf : f 0 = rE (R) (2 * m + 1)) : levM L n f 0 = rE (R) (2 * m + 1) := by
  unfold levM
  rw [hf]
  cases R with
  | none => rfl
  | some y => exact levF_end (h.isEnd n) _
theorem Alt.eval (h : Alt L lv m ss ns) (hlv : lv < 3) : evI [] L 0 = rE (foldT (altP ss ns 0 m) (Vx.num (ns 0))) (2 * m + 1) := by
  have e0 : evI [] L 0 = evalM [] L 0 := by unfold evI; rw [if_neg (by omega)]; rfl
  rw [e0]
  unfold evalM exprOf
  have h0 : ∀ i, i ≤ m → operM [] L (innerM [] L 50) (2 * i) = .ok (Vx.num (ns i), 2 * i + 1) := fun i hi => h.oper _ hi
  have hrun : ∀ (f : Nat → Res), (∀ i, i ≤ m → f (2 * i) = .ok (Vx.num (ns i), 2 * i + 1)) → levM L lv f 0 = rE (foldT (altP ss ns 0 m) (Vx.num (ns 0))) (2 * m + 1) := fun f hf => by
    unfold levM
    rw [show (0 : Nat) = 2 * 0 from rfl, hf 0 (by omega)]
    simp only
    exact h.run f hf m 0 _ (by omega) _ (by have := h.len; omega)
  have hc : lv = 0 ∨ lv = 1 ∨ lv = 2 := by omega
  rcases hc with rfl | rfl | rfl
  · exact h.top 2 _ _ (h.top 1 _ _ (hrun _ h0))
  · exact h.top 2 _ _ (hrun _ (fun i hi => h.skip 0 (by decide) _ h0 hi))
  · exact hrun _ (fun i hi => h.skip 1 (by decide) _ (fun i hi => h.skip 0 (by decide) _ h0 hi) hi)
end
theorem altP_of (n : Int) (qs : List (List UInt8 × Int)) : ∀ (ps pre : List (List UInt8 × Int)), qs = pre ++ ps → altP (fun i => (qs.getD i ([], 0)).1) (fun i => if i = 0 then n else (qs.getD (i - 1) ([], 0)).2) pre.length ps.length = ps
  | [], pre, h => rfl
  | p :: ps, pre, h => by
    have e : qs.getD pre.length ([], 0) = p := by rw [h]; simp
    have := altP_of n qs ps (pre ++ [p]) (by rw [h]; simp)
    rw [List.length_append] at this
    show (_, _) :: _ = _
    rw [show pre.length + [p].length = pre.length + 1 from rfl] at this
    rw [this]
    simp only [Nat.add_sub_cancel]
    rw [e, if_neg (by omega)]
theorem levels_eval (n : Int) (ps : List (List UInt8 × Int)) (lv : Nat) (hlv : lv < 3) (h : ∀ p ∈ ps, lvOf p.1 = some lv) : evI [] (tksT n ps) 0 = rE (foldT ps (Vx.num n)) (tksT n ps).length := by
  have ha := (alt_of n ps lv h).eval hlv
  rw [ha, tksT_len]
  have := altP_of n ps ps [] rfl
  rw [show ([] : List (List UInt8 × Int)).length = 0 from rfl] at this
  rw [this]
  rfl
end Go.Proofs.YtljmbgflcidokaaGreatDoor
